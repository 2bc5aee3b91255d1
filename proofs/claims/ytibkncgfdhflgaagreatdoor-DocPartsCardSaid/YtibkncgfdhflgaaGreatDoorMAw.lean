/-
  A row of tokens, as a later call finds it.
-/
import Derived.Test.YtibkncgfdhflgaaGreatDoorLx7
import Derived.Test.YtibkncgfdhflgaaGreatDoorMText2
import Derived.Laws.AppendOwnNone
import Derived.Maps.AppendAt
import Derived.Laws.OwnMore
import Derived.WalkSmall
import Derived.OneCell
import Derived.Deep.AppendLies
import Derived.Deep.LoopGhost
import Derived.BigQuiet
import Derived.Deep.Cut
import Derived.Deep.RegionWith
import Derived.Deep.QuietTactic
import Derived.Deep.RegionLaw
namespace Go.Proofs.YtibkncgfdhflgaaGreatDoor
open Go.RowKit

theorem tkCells_at : ∀ (ts : List Tk) (j : Nat) (t : Tk), ts[j]? = some t → (tkCells ts)[j * 3]? = some (.int .i64 t.k) ∧ (tkCells ts)[j * 3 + 1]? = some (.string ⟨t.s.toArray⟩) ∧ (tkCells ts)[j * 3 + 2]? = some (.int .i64 t.at_)
  | [], _, _, h => by simp at h
  | a :: ts, 0, t, h => by
    simp only [List.getElem?_cons_zero, Option.some.injEq] at h
    subst h
    exact ⟨rfl, rfl, rfl⟩
  | a :: ts, j + 1, t, h => by
    have := tkCells_at ts j t (by simpa using h)
    have e : tkCells (a :: ts) = [.int .i64 a.k, .string ⟨a.s.toArray⟩, .int .i64 a.at_] ++ tkCells ts := rfl
    rw [e, show (j + 1) * 3 = 3 + j * 3 by omega]
    refine ⟨?_, ?_, ?_⟩
    · rw [List.getElem?_append_right (by simp)]; simpa using this.1
    · rw [List.getElem?_append_right (by simp; omega)]
      rw [show 3 + j * 3 + 1 - [Value.int .i64 a.k, .string ⟨a.s.toArray⟩, .int .i64 a.at_].length = j * 3 + 1 by simp; omega]
      exact this.2.1
    · rw [List.getElem?_append_right (by simp; omega)]
      rw [show 3 + j * 3 + 2 - [Value.int .i64 a.k, .string ⟨a.s.toArray⟩, .int .i64 a.at_].length = j * 3 + 2 by simp; omega]
      exact this.2.2
/-- A row of tokens, as a call finds it. -/
def TkAt (w : World) (a : Option Addr) (ts : List Tk) : Prop := 0 < ts.length → ∃ g, a = some ⟨g, 0, none⟩ ∧ ∀ j u, (tkCells ts)[j]? = some u → w.cell? ⟨g, j, none⟩ = some u
theorem tkAt_of {w : World} {B : Nat} {T : TypeId} {v : Value} {ts : List Tk} (h : w.ownsRow B T 3 v ts.length (tkCells ts)) : ∃ a cap, v = .slice a ts.length cap ∧ ts.length ≤ cap ∧ TkAt w a ts ∧ ∀ w', Below w.heap.size w w' → TkAt w' a ts := by
  rcases h.2 with ⟨hv, h0⟩ | ⟨g, cap, cur, hv, hB, hg, hcap, _⟩
  · exact ⟨none, 0, by rw [hv, h0], by omega, fun h' => absurd h' (by omega), fun _ _ h' => absurd h' (by omega)⟩
  · refine ⟨some ⟨g, 0, none⟩, cap, hv, hcap, fun _ => ⟨g, rfl, fun j u hj => ?_⟩, fun w' hb _ => ⟨g, rfl, fun j u hj => ?_⟩⟩
    · have := h.cells (g := g) (by rw [hv]; rfl) j u hj
      have e : (⟨g, 0, none⟩ : Addr).add j = ⟨g, j, none⟩ := by cases j <;> simp [Addr.add]
      rwa [e] at this
    · have := (own_below h hb).cells (g := g) (by rw [hv]; rfl) j u hj
      have e : (⟨g, 0, none⟩ : Addr).add j = ⟨g, j, none⟩ := by cases j <;> simp [Addr.add]
      rwa [e] at this

theorem lxGo_len : ∀ (f a : Nat) (l : List UInt8) (acc : List Tk), (lxGo f a l acc).1.length ≤ acc.length + l.length
  | 0, _, _, _ => Nat.le_add_right _ _
  | _ + 1, _, [], _ => Nat.le_add_right _ _
  | f + 1, a, b :: r, acc => by
    cases hb : lxBlank b with
    | true =>
      rw [lxGo_blank _ _ _ _ _ hb]
      have := lxGo_len f (a + 1) r acc
      rw [List.length_cons]
      omega
    | false =>
      cases h35 : (b == 35) with
      | true =>
        rw [lxGo_rem _ _ _ _ _ hb h35]
        have := lxGo_len f (a + lxRem (b :: r)) ((b :: r).drop (lxRem (b :: r))) acc
        rw [List.length_drop] at this
        omega
      | false =>
        cases hw : lxWord (b :: r) with
        | none =>
          rw [lxGo_none _ _ _ _ _ hb h35 hw]
          exact Nat.zero_le _
        | some o =>
          obtain ⟨k, s, m⟩ := o
          rw [lxGo_some _ _ _ _ _ hb h35 hw]
          have hp := lxWord_le hw
          have := lxGo_len f (a + m) ((b :: r).drop m) (acc ++ [⟨k, s, a⟩])
          rw [List.length_drop, List.length_append, List.length_singleton] at this
          omega
theorem lexP_len (l : List UInt8) : (lexP l).1.length ≤ 8000 := by
  unfold lexP
  split
  · exact Nat.zero_le _
  · have := lxGo_len (l.length + 1) 0 l []
    simp only [List.length_nil] at this
    omega


end Go.Proofs.YtibkncgfdhflgaaGreatDoor

/-
  Readings through blocks that are named by a test; a slice laid anew with the same cells reads as it did.
-/
namespace Go.Proofs.YtibkncgfdhflgaaGreatDoor
open Go.RowKit

def StrsD (w : World) (D : Nat → Prop) (a : Option Addr) (ns : List ByteArray) : Prop :=
  0 < ns.length → ∃ b off, a = some ⟨b, off, none⟩ ∧ D b ∧ ∀ j x, ns[j]? = some x → x.size ≤ 2000000 ∧ w.cell? ⟨b, off + j, none⟩ = some (.string x)
def Rows4D (w : World) (D : Nat → Prop) (R : JV → Value → Prop) (a : Option Addr) (ps : List JV) : Prop :=
  0 < ps.length → ∃ b off, a = some ⟨b, off, none⟩ ∧ D b ∧ ∀ i x, ps[i]? = some x → ∃ c0 c1 c2 c3, Four w b (off + i * 4) c0 c1 c2 c3 ∧ R x (.agg #[c0, c1, c2, c3])
def RdD (w : World) (D : Nat → Prop) : Nat → JV → Value → Prop
  | 0, _, _ => False
  | n + 1, x, v => ∃ an cn ap cp, v = .agg #[.int .i64 x.k, .string x.s, .slice an x.ns.length cn, .slice ap x.ps.length cp] ∧
      (x.s.size ≤ 2000000 ∧ x.ns.length ≤ 2000000 ∧ x.ps.length ≤ 2000000 ∧ x.ns.length ≤ cn ∧ x.ps.length ≤ cp) ∧ StrsD w D an x.ns ∧ Rows4D w D (RdD w D n) ap x.ps

theorem RdD.shape {w : World} {D : Nat → Prop} {n : Nat} {x : JV} {v : Value} (h : RdD w D n x v) : ∃ an cn ap cp, v = .agg #[.int .i64 x.k, .string x.s, .slice an x.ns.length cn, .slice ap x.ps.length cp] := by
  match n, h with
  | _ + 1, ⟨an, cn, ap, cp, e, _⟩ => exact ⟨an, cn, ap, cp, e⟩

theorem RdD.step {w w' : World} {D D' : Nat → Prop} (hD : ∀ b, D b → D' b) (hk : ∀ b o, D b → w'.cell? ⟨b, o, none⟩ = w.cell? ⟨b, o, none⟩) : ∀ {n : Nat} {x : JV} {v : Value}, RdD w D n x v → RdD w' D' n x v
  | 0, _, _, h => h
  | _ + 1, _, _, h => by
    obtain ⟨an, cn, ap, cp, e, hz, hs, hr⟩ := h
    refine ⟨an, cn, ap, cp, e, hz, fun hp => ?_, fun hp => ?_⟩
    · obtain ⟨b, off, e, hb, hc⟩ := hs hp
      exact ⟨b, off, e, hD b hb, fun j x hx => ⟨(hc j x hx).1, (hk b _ hb).trans (hc j x hx).2⟩⟩
    · obtain ⟨b, off, e, hb, hc⟩ := hr hp
      refine ⟨b, off, e, hD b hb, fun i x hx => ?_⟩
      obtain ⟨c0, c1, c2, c3, h4, hR⟩ := hc i x hx
      exact ⟨c0, c1, c2, c3, h4.keep fun o => hk b o hb, RdD.step hD hk hR⟩
theorem Rows4D.step {w w' : World} {D D' : Nat → Prop} {n : Nat} {a : Option Addr} {ps : List JV} (h : Rows4D w D (RdD w D n) a ps) (hD : ∀ b, D b → D' b) (hk : ∀ b o, D b → w'.cell? ⟨b, o, none⟩ = w.cell? ⟨b, o, none⟩) : Rows4D w' D' (RdD w' D' n) a ps := fun hp => by
  obtain ⟨b, off, e, hb, hc⟩ := h hp
  refine ⟨b, off, e, hD b hb, fun i x hx => ?_⟩
  obtain ⟨c0, c1, c2, c3, h4, hR⟩ := hc i x hx
  exact ⟨c0, c1, c2, c3, h4.keep fun o => hk b o hb, RdD.step hD hk hR⟩

theorem Rd.toD {w : World} {B : Nat} {D : Nat → Prop} (hD : ∀ b, b < B → D b) : ∀ {n : Nat} {x : JV} {v : Value}, Rd w B n x v → RdD w D n x v
  | 0, _, _, h => h
  | _ + 1, _, _, h => by
    obtain ⟨an, cn, ap, cp, e, hz, hs, hr⟩ := h
    refine ⟨an, cn, ap, cp, e, hz, fun hp => ?_, fun hp => ?_⟩
    · obtain ⟨b, off, e, hb, hc⟩ := hs hp
      exact ⟨b, off, e, hD b hb, hc⟩
    · obtain ⟨b, off, e, hb, hc⟩ := hr hp
      refine ⟨b, off, e, hD b hb, fun i x hx => ?_⟩
      obtain ⟨c0, c1, c2, c3, h4, hR⟩ := hc i x hx
      exact ⟨c0, c1, c2, c3, h4, Rd.toD hD hR⟩
theorem RdD.toB {w : World} {B : Nat} {D : Nat → Prop} (hD : ∀ b, D b → b < B) : ∀ {n : Nat} {x : JV} {v : Value}, RdD w D n x v → Rd w B n x v
  | 0, _, _, h => h
  | _ + 1, _, _, h => by
    obtain ⟨an, cn, ap, cp, e, hz, hs, hr⟩ := h
    refine ⟨an, cn, ap, cp, e, hz, fun hp => ?_, fun hp => ?_⟩
    · obtain ⟨b, off, e, hb, hc⟩ := hs hp
      exact ⟨b, off, e, hD b hb, hc⟩
    · obtain ⟨b, off, e, hb, hc⟩ := hr hp
      refine ⟨b, off, e, hD b hb, fun i x hx => ?_⟩
      obtain ⟨c0, c1, c2, c3, h4, hR⟩ := hc i x hx
      exact ⟨c0, c1, c2, c3, h4, RdD.toB hD hR⟩

/-- One cell, a slice, laid anew: what reads through it reads as it did. -/
structure Redir (w w' : World) (D : Nat → Prop) (p : Addr) (vo vn : Value) : Prop where
  same : ∀ b o, (⟨b, o, none⟩ : Addr) ≠ p → w'.cell? ⟨b, o, none⟩ = w.cell? ⟨b, o, none⟩
  old : w.cell? p = some vo
  new : w'.cell? p = some vn
  slice : ∃ a n c, vo = .slice a n c
  str : ∀ (ns : List ByteArray) a c, vo = .slice a ns.length c → StrsD w D a ns → ∃ a' c', vn = .slice a' ns.length c' ∧ ns.length ≤ c' ∧ StrsD w' D a' ns
  rows : ∀ (m : Nat) (ps : List JV) a c, vo = .slice a ps.length c → Rows4D w D (RdD w D m) a ps → (∀ x v, RdD w D m x v → RdD w' D m x v) → ∃ a' c', vn = .slice a' ps.length c' ∧ ps.length ≤ c' ∧ Rows4D w' D (RdD w' D m) a' ps

theorem Redir.int {w w' : World} {D : Nat → Prop} {p : Addr} {vo vn : Value} (R : Redir w w' D p vo vn) {b o : Nat} {k : IntKind} {z : Int} (h : w.cell? ⟨b, o, none⟩ = some (.int k z)) : w'.cell? ⟨b, o, none⟩ = some (.int k z) := by
  rw [R.same b o ?_]; exact h
  rintro rfl
  obtain ⟨a, n, c, e⟩ := R.slice
  rw [R.old, e] at h
  cases h
theorem Redir.string {w w' : World} {D : Nat → Prop} {p : Addr} {vo vn : Value} (R : Redir w w' D p vo vn) {b o : Nat} {s : ByteArray} (h : w.cell? ⟨b, o, none⟩ = some (.string s)) : w'.cell? ⟨b, o, none⟩ = some (.string s) := by
  rw [R.same b o ?_]; exact h
  rintro rfl
  obtain ⟨a, n, c, e⟩ := R.slice
  rw [R.old, e] at h
  cases h
theorem Redir.any {w w' : World} {D : Nat → Prop} {p : Addr} {vo vn : Value} (R : Redir w w' D p vo vn) {b o : Nat} {u : Value} (h : w.cell? ⟨b, o, none⟩ = some u) : ∃ d, w'.cell? ⟨b, o, none⟩ = some d ∧ (d = u ∨ (u = vo ∧ d = vn)) := by
  by_cases e : (⟨b, o, none⟩ : Addr) = p
  · subst e
    refine ⟨vn, R.new, .inr ⟨?_, rfl⟩⟩
    rw [R.old] at h
    exact (Option.some.inj h).symm
  · exact ⟨u, (R.same b o e).trans h, .inl rfl⟩

theorem Redir.agg {w w' : World} {D : Nat → Prop} {p : Addr} {vo vn : Value} (R : Redir w w' D p vo vn) : ∀ (m : Nat) (x : JV) (c2 c3 d2 d3 : Value), (d2 = c2 ∨ (c2 = vo ∧ d2 = vn)) → (d3 = c3 ∨ (c3 = vo ∧ d3 = vn)) → RdD w D m x (.agg #[.int .i64 x.k, .string x.s, c2, c3]) → RdD w' D m x (.agg #[.int .i64 x.k, .string x.s, d2, d3])
  | 0, _, _, _, _, _, _, _, h => h
  | m + 1, x, c2, c3, d2, d3, h2, h3, h => by
    have ih : ∀ x v, RdD w D m x v → RdD w' D m x v := fun y v hv => by
      obtain ⟨an, cn, ap, cp, rfl⟩ := hv.shape
      exact R.agg m y _ _ _ _ (.inl rfl) (.inl rfl) hv
    obtain ⟨an, cn, ap, cp, e, ⟨z1, z2, z3, z4, z5⟩, hs, hr⟩ := h
    injection e with e
    have e' : [Value.int .i64 x.k, .string x.s, c2, c3] = _ := congrArg Array.toList e
    simp only [List.cons.injEq, true_and, and_true] at e'
    obtain ⟨rfl, rfl⟩ := e'
    obtain ⟨an', cn', rfl, q4, hs'⟩ : ∃ an' cn', d2 = .slice an' x.ns.length cn' ∧ x.ns.length ≤ cn' ∧ StrsD w' D an' x.ns := by
      rcases h2 with rfl | ⟨hv, rfl⟩
      · refine ⟨an, cn, rfl, z4, fun hp => ?_⟩
        obtain ⟨b, off, e, hb, hc⟩ := hs hp
        exact ⟨b, off, e, hb, fun j y hy => ⟨(hc j y hy).1, R.string (hc j y hy).2⟩⟩
      · exact R.str x.ns an cn hv.symm hs
    obtain ⟨ap', cp', rfl, q5, hr'⟩ : ∃ ap' cp', d3 = .slice ap' x.ps.length cp' ∧ x.ps.length ≤ cp' ∧ Rows4D w' D (RdD w' D m) ap' x.ps := by
      rcases h3 with rfl | ⟨hv, rfl⟩
      · refine ⟨ap, cp, rfl, z5, fun hp => ?_⟩
        obtain ⟨b, off, e, hb, hc⟩ := hr hp
        refine ⟨b, off, e, hb, fun i y hy => ?_⟩
        obtain ⟨c0, c1, c2, c3, ⟨f0, f1, f2, f3⟩, hR⟩ := hc i y hy
        obtain ⟨an1, cn1, ap1, cp1, ev⟩ := hR.shape
        injection ev with ev
        have ev' : [c0, c1, c2, c3] = _ := congrArg Array.toList ev
        simp only [List.cons.injEq, and_true] at ev'
        obtain ⟨rfl, rfl, rfl, rfl⟩ := ev'
        obtain ⟨d2, g2, s2⟩ := R.any f2
        obtain ⟨d3, g3, s3⟩ := R.any f3
        exact ⟨_, _, d2, d3, ⟨R.int f0, R.string f1, g2, g3⟩, R.agg m y _ _ d2 d3 s2 s3 hR⟩
      · exact R.rows m x.ps ap cp hv.symm hr ih
    exact ⟨an', cn', ap', cp', rfl, ⟨z1, z2, z3, q4, q5⟩, hs', hr'⟩

theorem Redir.rd {w w' : World} {D : Nat → Prop} {p : Addr} {vo vn : Value} (R : Redir w w' D p vo vn) {m : Nat} {x : JV} {v : Value} (h : RdD w D m x v) : RdD w' D m x v := by
  obtain ⟨an, cn, ap, cp, rfl⟩ := h.shape
  exact R.agg m x _ _ _ _ (.inl rfl) (.inl rfl) h
theorem Redir.rows4 {w w' : World} {D : Nat → Prop} {p : Addr} {vo vn : Value} (R : Redir w w' D p vo vn) {m : Nat} {a : Option Addr} {ps : List JV} (h : Rows4D w D (RdD w D m) a ps) : Rows4D w' D (RdD w' D m) a ps := fun hp => by
  obtain ⟨b, off, e, hb, hc⟩ := h hp
  refine ⟨b, off, e, hb, fun i y hy => ?_⟩
  obtain ⟨c0, c1, c2, c3, ⟨f0, f1, f2, f3⟩, hR⟩ := hc i y hy
  obtain ⟨an1, cn1, ap1, cp1, ev⟩ := hR.shape
  injection ev with ev
  have ev' : [c0, c1, c2, c3] = _ := congrArg Array.toList ev
  simp only [List.cons.injEq, and_true] at ev'
  obtain ⟨rfl, rfl, rfl, rfl⟩ := ev'
  obtain ⟨d2, g2, s2⟩ := R.any f2
  obtain ⟨d3, g3, s3⟩ := R.any f3
  exact ⟨_, _, d2, d3, ⟨R.int f0, R.string f1, g2, g3⟩, R.agg m y _ _ d2 d3 s2 s3 hR⟩

/-- Names, laid anew. -/
theorem Redir.names {w : World} {D : Nat → Prop} {p : Addr} {an an' : Option Addr} {cn cn' : Nat} {ns : List ByteArray} (hold : w.cell? p = some (.slice an ns.length cn)) (hs : StrsD w D an ns) (hs' : StrsD w D an' ns) (hc' : ns.length ≤ cn')
    (hnew : (w.setCell p (.slice an' ns.length cn')).cell? p = some (.slice an' ns.length cn')) : Redir w (w.setCell p (.slice an' ns.length cn')) D p (.slice an ns.length cn) (.slice an' ns.length cn') := by
  have hsame : ∀ b o, (⟨b, o, none⟩ : Addr) ≠ p → (w.setCell p (.slice an' ns.length cn')).cell? ⟨b, o, none⟩ = w.cell? ⟨b, o, none⟩ := fun b o hne => World.cell?_setCell_other _ _ _ _ hne.symm
  refine ⟨hsame, hold, hnew, ⟨_, _, _, rfl⟩, ?_, ?_⟩
  · intro ns1 a c e h1
    injection e with e1 e2 e3
    subst e1 e3
    have hns : ns1 = ns := by
      by_cases hp : 0 < ns.length
      · obtain ⟨b, off, ea, hb, hc⟩ := hs hp
        obtain ⟨b1, off1, ea1, hb1, hc1⟩ := h1 (by omega)
        rw [ea] at ea1
        injection ea1 with ea1
        injection ea1 with e4 e5
        subst e4 e5
        refine List.ext_getElem? fun j => ?_
        by_cases hj : j < ns.length
        · have h2 := (hc j _ (List.getElem?_eq_getElem hj)).2
          have h3 := (hc1 j _ (List.getElem?_eq_getElem (by omega))).2
          rw [h2] at h3
          injection h3 with h3
          injection h3 with h3
          rw [List.getElem?_eq_getElem hj, List.getElem?_eq_getElem (by omega), h3]
        · rw [List.getElem?_eq_none (by omega), List.getElem?_eq_none (by omega)]
      · rw [List.eq_nil_of_length_eq_zero (l := ns) (by omega), List.eq_nil_of_length_eq_zero (l := ns1) (by omega)]
    subst hns
    refine ⟨an', cn', rfl, hc', fun hp => ?_⟩
    obtain ⟨b, off, ea, hb, hc⟩ := hs' hp
    refine ⟨b, off, ea, hb, fun j x hx => ⟨(hc j x hx).1, ?_⟩⟩
    rw [hsame b _ ?_]; exact (hc j x hx).2
    rintro rfl
    have := (hc j x hx).2
    rw [hold] at this
    cases this
  · intro m ps a c e h1 _
    injection e with e1 e2 e3
    subst e1 e3
    refine ⟨an', cn', by rw [e2], by omega, fun hp => ?_⟩
    exfalso
    obtain ⟨b, off, ea, hb, hc⟩ := hs (by omega)
    obtain ⟨b1, off1, ea1, hb1, hc1⟩ := h1 hp
    rw [ea] at ea1
    injection ea1 with ea1
    injection ea1 with e4 e5
    subst e4 e5
    obtain ⟨c0, c1, c2, c3, ⟨f0, _⟩, hR⟩ := hc1 0 _ (List.getElem?_eq_getElem hp)
    obtain ⟨an1, cn1, ap1, cp1, ev⟩ := hR.shape
    injection ev with ev
    have ev' : [c0, c1, c2, c3] = _ := congrArg Array.toList ev
    simp only [List.cons.injEq] at ev'
    have h2 := (hc 0 _ (List.getElem?_eq_getElem (by omega))).2
    rw [Nat.zero_mul, Nat.add_zero, ev'.1] at f0
    rw [Nat.add_zero, f0] at h2
    cases h2

/-- Parts, laid anew. -/
theorem Redir.parts {w : World} {D : Nat → Prop} {p : Addr} {ap : Option Addr} {cp g cp' m0 : Nat} {ps : List JV} (hold : w.cell? p = some (.slice ap ps.length cp)) (hr : Rows4D w D (RdD w D m0) ap ps) {v' : Option Addr} (hD : 0 < ps.length → v' = some ⟨g, 0, none⟩ ∧ D g ∧ g ≠ p.block)
    (hcopy : ∀ b off, 0 < ps.length → ap = some ⟨b, off, none⟩ → ∀ j, j < ps.length * 4 → w.cell? ⟨g, j, none⟩ = w.cell? ⟨b, off + j, none⟩) (hc' : ps.length ≤ cp')
    (hnew : (w.setCell p (.slice v' ps.length cp')).cell? p = some (.slice v' ps.length cp')) : Redir w (w.setCell p (.slice v' ps.length cp')) D p (.slice ap ps.length cp) (.slice v' ps.length cp') := by
  have hsame : ∀ b o, (⟨b, o, none⟩ : Addr) ≠ p → (w.setCell p (.slice v' ps.length cp')).cell? ⟨b, o, none⟩ = w.cell? ⟨b, o, none⟩ := fun b o hne => World.cell?_setCell_other _ _ _ _ hne.symm
  refine ⟨hsame, hold, hnew, ⟨_, _, _, rfl⟩, ?_, ?_⟩
  · intro ns a c e h1
    injection e with e1 e2 e3
    subst e1 e3
    refine ⟨v', cp', by rw [e2], by omega, fun hp => ?_⟩
    exfalso
    obtain ⟨b, off, ea, hb, hc⟩ := h1 hp
    obtain ⟨b1, off1, ea1, hb1, hc1⟩ := hr (by omega)
    rw [ea] at ea1
    injection ea1 with ea1
    injection ea1 with e4 e5
    subst e4 e5
    obtain ⟨c0, c1, c2, c3, ⟨f0, _⟩, hR⟩ := hc1 0 _ (List.getElem?_eq_getElem (by omega))
    obtain ⟨an1, cn1, ap1, cp1, ev⟩ := hR.shape
    injection ev with ev
    have ev' : [c0, c1, c2, c3] = _ := congrArg Array.toList ev
    simp only [List.cons.injEq] at ev'
    have h2 := (hc 0 _ (List.getElem?_eq_getElem hp)).2
    rw [Nat.zero_mul, Nat.add_zero, ev'.1] at f0
    rw [Nat.add_zero, f0] at h2
    cases h2
  · intro m ps1 a c e h1 ih
    injection e with e1 e2 e3
    subst e1 e3
    refine ⟨v', cp', by rw [e2], by omega, fun hp => ?_⟩
    obtain ⟨rfl, hg, hgp⟩ := hD (by omega)
    obtain ⟨b, off, ea, hb, hc⟩ := h1 hp
    refine ⟨g, 0, rfl, hg, fun i y hy => ?_⟩
    have hi : i < ps1.length := (List.getElem?_eq_some_iff.1 hy).1
    obtain ⟨c0, c1, c2, c3, ⟨f0, f1, f2, f3⟩, hR⟩ := hc i y hy
    have hcp := hcopy b off (by omega) ea
    have hat : ∀ k u, k < 4 → w.cell? ⟨b, off + i * 4 + k, none⟩ = some u → (w.setCell p (.slice (some ⟨g, 0, none⟩) ps.length cp')).cell? ⟨g, 0 + i * 4 + k, none⟩ = some u := fun k u hk hu => by
      rw [hsame g _ (fun e => hgp (by rw [← e])), Nat.zero_add, hcp (i * 4 + k) (by omega), ← Nat.add_assoc]
      exact hu
    exact ⟨c0, c1, c2, c3, ⟨hat 0 c0 (by omega) f0, hat 1 c1 (by omega) f1, hat 2 c2 (by omega) f2, hat 3 c3 (by omega) f3⟩, ih y _ hR⟩

end Go.Proofs.YtibkncgfdhflgaaGreatDoor

/-
  The state of jval.copyOf: lists that are still to be laid anew; all read as they did.
-/
namespace Go.Proofs.YtibkncgfdhflgaaGreatDoor
open Go.RowKit

theorem app_fresh {w : World} {ops : Array Oper} {rest : List Oper} {o : Oper} {a : Act} {Q : Exit → Act → World → Prop} (hgd : o.guard = none) (s x : Operand) (t : TypeId)
    (ho : o.op = .call { callee := .builtin .append, args := #[s, x], argTypes := #[t, t] }) (e : TypeId) (i : TypeInfo) (z : Value) (size bytes : Nat) (ht : Tryz.prog.underlying t = some (.slice e)) (hi : Tryz.prog.info? e = some i) (hz : i.zero = some z)
    (hsize : i.size = size) (hby : i.bytes = bytes) (hzs : z.cells.size = size) (hsz : 0 < size) (hs : a.eval s = .slice none 0 0) (A : Option Addr) (m c : Nat) (news : List Value) (hx : a.eval x = .slice A m c) (hl : news.length = m * size)
    (hA : 0 < m → ∃ b off, A = some ⟨b, off, none⟩ ∧ ∀ j u, news[j]? = some u → w.cell? ⟨b, off + j, none⟩ = some u) (h1 : ∀ u ∈ news, u.oneCell' = true) (h63 : m ≤ maxLen) (hbytes : m * bytes ≤ 140737488355328)
    (h : ∀ v' w', w'.ownsRow w.heap.size e size v' m news → Below w.heap.size w w' → wpList Tryz.prog ops Q rest (a.put o.dst v') w') : wpList Tryz.prog ops Q (o :: rest) a w := by
  have hbel : ∀ {w' : World}, w.grownBy w' none → Below w.heap.size w w' := fun hg => ⟨hg.os, hg.tape, hg.output, hg.size, fun k hk => hg.block k hk (by simp)⟩
  cases A with
  | none =>
    have hm : m = 0 := by
      rcases Nat.eq_zero_or_pos m with h0 | h0
      · exact h0
      · obtain ⟨b, off, e, _⟩ := hA h0; cases e
    subst hm
    have hn : news = [] := List.eq_nil_of_length_eq_zero (by rw [hl]; simp)
    subst hn
    have hrun : (Builtin.append_ #[t, t] o.type #[.slice none 0 0, .slice none 0 c]).run Tryz.prog w = .ok (.slice none 0 0) w := by
      simp [Builtin.append_, run_underlying ht, sizeOf, typeInfo, hi, Builtin.lenOf, Builtin.firstCells]
    refine wpList_plain hgd fun K hK => ?_
    unfold Oper.wp
    simp [execOp, ho, resolve, invoke, builtin, hs, hx, hrun, Result.andThen]
    exact hK _ _ (h _ _ (World.ownsRow_nil _ _ _ _) (Below.refl _ _))
  | some ad =>
    refine wpList_append_own w hgd s x t ho w.heap.size e i z size bytes ht hi hz hsize hby hzs hsz (.slice none 0 0) 0 [] hs (World.ownsRow_nil _ _ _ _) ad m c news hx hl ?_ h1 (by rw [Nat.zero_add]; exact h63) (by rw [Nat.zero_add]; exact hbytes) (Nat.le_refl _) ?_
    · intro j u hu
      have hm : 0 < m := by
        rcases Nat.eq_zero_or_pos m with h0 | h0
        · subst h0; rw [List.eq_nil_of_length_eq_zero (l := news) (by rw [hl]; simp)] at hu; simp at hu
        · exact h0
      obtain ⟨b, off, ea, hc⟩ := hA hm
      obtain rfl := Option.some.inj ea
      rw [Go.WideShapes.add_plain]
      exact hc j u hu
    · intro v' w' h2 h3 _
      rw [Nat.zero_add, List.nil_append] at h2
      exact h v' w' h2 (hbel h3)

/-- A fresh row, told: its address, its room, its cells, which none has frozen. -/
theorem fresh_row {w : World} {base : Nat} {e : TypeId} {size : Nat} {v : Value} {m : Nat} {news : List Value} (h : w.ownsRow base e size v m news) :
    ∃ a c, v = .slice a m c ∧ m ≤ c ∧ (0 < m → ∃ g, a = some ⟨g, 0, none⟩ ∧ base ≤ g ∧ g < w.heap.size ∧ (∀ j, w.frozen? ⟨g, j, none⟩ = false) ∧ ∀ j, j < m * size → w.cell? ⟨g, j, none⟩ = news[j]?) := by
  rcases h.2 with ⟨hv, h0⟩ | ⟨g, cap, cur, hv, hb, hg, hnc, hcm, hcs, ht⟩
  · exact ⟨none, 0, by rw [hv, h0], by omega, fun hp => by omega⟩
  · subst hv
    refine ⟨_, cap, rfl, hnc, fun _ => ⟨g, rfl, hb, (Array.getElem?_eq_some_iff.1 hg).1, fun j => h.frozenAt j, fun j hj => h.cellAt j hj⟩⟩

/-- The cells that a slice of parts leads to. -/
theorem rows_cells {w : World} {D : Nat → Prop} {n : Nat} {a : Option Addr} {ps : List JV} (h : Rows4D w D (RdD w D n) a ps) :
    ∃ news : List Value, news.length = ps.length * 4 ∧ (0 < ps.length → ∃ b off, a = some ⟨b, off, none⟩ ∧ ∀ j u, news[j]? = some u → w.cell? ⟨b, off + j, none⟩ = some u) ∧ ∀ u ∈ news, u.oneCell' = true := by
  by_cases hp : 0 < ps.length
  · obtain ⟨b, off, e, _, hc⟩ := h hp
    have hat : ∀ j, j < ps.length * 4 → ∃ u, w.cell? ⟨b, off + j, none⟩ = some u ∧ u.oneCell' = true := by
      intro j hj
      obtain ⟨c0, c1, c2, c3, ⟨f0, f1, f2, f3⟩, hR⟩ := hc (j / 4) _ (List.getElem?_eq_getElem (by omega))
      obtain ⟨an1, cn1, ap1, cp1, ev⟩ := hR.shape
      injection ev with ev
      have ev' : [c0, c1, c2, c3] = _ := congrArg Array.toList ev
      simp only [List.cons.injEq, and_true] at ev'
      obtain ⟨rfl, rfl, rfl, rfl⟩ := ev'
      have hm : j % 4 < 4 := Nat.mod_lt _ (by omega)
      match hk : j % 4, hm with
      | 0, _ => exact ⟨_, by rw [show off + j = off + j / 4 * 4 by omega]; exact f0, rfl⟩
      | 1, _ => exact ⟨_, by rw [show off + j = off + j / 4 * 4 + 1 by omega]; exact f1, rfl⟩
      | 2, _ => exact ⟨_, by rw [show off + j = off + j / 4 * 4 + 2 by omega]; exact f2, rfl⟩
      | 3, _ => exact ⟨_, by rw [show off + j = off + j / 4 * 4 + 3 by omega]; exact f3, rfl⟩
    refine ⟨(List.range (ps.length * 4)).map fun j => (w.cell? ⟨b, off + j, none⟩).getD undef, by simp, fun _ => ⟨b, off, e, fun j u hu => ?_⟩, fun u hu => ?_⟩
    · rw [List.getElem?_map] at hu
      obtain ⟨k, hk, e2⟩ := Option.map_eq_some_iff.1 hu
      obtain ⟨hlt, e3⟩ := List.getElem?_eq_some_iff.1 hk
      rw [List.getElem_range] at e3
      subst e3
      rw [List.length_range] at hlt
      obtain ⟨u', h1, _⟩ := hat j hlt
      rw [h1] at e2
      rw [h1, ← e2]
      rfl
    · obtain ⟨k, hk, rfl⟩ := List.mem_map.1 hu
      obtain ⟨u', h1, h2⟩ := hat k (List.mem_range.1 hk)
      rw [h1]
      exact h2
  · exact ⟨[], by simp; omega, fun h => absurd h hp, by simp⟩

theorem names_cells {w : World} {D : Nat → Prop} {a : Option Addr} {ns : List ByteArray} (h : StrsD w D a ns) :
    ∃ news : List Value, news.length = ns.length * 1 ∧ news = ns.map Value.string ∧ (0 < ns.length → ∃ b off, a = some ⟨b, off, none⟩ ∧ ∀ j u, news[j]? = some u → w.cell? ⟨b, off + j, none⟩ = some u) ∧ ∀ u ∈ news, u.oneCell' = true := by
  refine ⟨ns.map Value.string, by simp, rfl, fun hp => ?_, fun u hu => ?_⟩
  · obtain ⟨b, off, e, _, hc⟩ := h hp
    refine ⟨b, off, e, fun j u hu => ?_⟩
    rw [List.getElem?_map] at hu
    obtain ⟨x, hx, rfl⟩ := Option.map_eq_some_iff.1 hu
    exact (hc j x hx).2
  · obtain ⟨x, _, rfl⟩ := List.mem_map.1 hu
    rfl

/-- How many values there are in one. -/
def nodes : Nat → JV → Nat
  | 0, _ => 0
  | n + 1, x => 1 + (x.ps.map (nodes n)).sum

structure CE where
  g : Nat
  cap : Nat
  n : Nat
  xs : List JV
def CE.cell (e : CE) : Value := .slice (some ⟨e.g, 0, none⟩) e.xs.length e.cap
def CE.wt (e : CE) : Nat := 1 + (e.xs.map (nodes e.n)).sum
def mC (es : List CE) : Nat := (es.map CE.wt).sum
theorem mC_snoc (es : List CE) (e : CE) : mC (es ++ [e]) = mC es + e.wt := by simp [mC]
theorem mC_len (es : List CE) : es.length ≤ mC es := by
  induction es with
  | nil => exact Nat.le_refl _
  | cons e r ih =>
    have : mC (e :: r) = e.wt + mC r := by simp [mC]
    rw [this, List.length_cons]
    unfold CE.wt
    omega

def Dm (w : World) (X : Nat → Prop) (go : Nat) (b : Nat) : Prop := b < w.heap.size ∧ b ≠ go ∧ ¬ X b
structure CE.Ok (w : World) (X : Nat → Prop) (go B0 : Nat) (e : CE) : Prop where
  lo : B0 ≤ e.g
  hi : e.g < w.heap.size
  ne : e.g ≠ go
  ner : ¬ X e.g
  fz : ∀ j, w.frozen? ⟨e.g, j, none⟩ = false
  len : e.xs.length ≤ 2000000
  cap : e.xs.length ≤ e.cap
  rd : Rows4D w (Dm w X go) (RdD w (Dm w X go) e.n) (some ⟨e.g, 0, none⟩) e.xs

def CS (X : Nat → Prop) (B0 : Nat) (w0 : World) (es ks : List CE) (v : Value) (w : World) : Prop :=
  ∃ go, w.ownsRow B0 43 1 v es.length (es.map CE.cell) ∧ v.ownBlock = some go ∧ Below B0 w0 w ∧ B0 ≤ w.heap.size ∧ ∀ e, (e ∈ es ∨ e ∈ ks) → e.Ok w X go B0

theorem CE.Ok.below {w w' : World} {X : Nat → Prop} {go B0 : Nat} {e : CE} (h : e.Ok w X go B0) (hb : Below w.heap.size w w') : e.Ok w' X go B0 :=
  ⟨h.lo, Nat.lt_of_lt_of_le h.hi hb.size, h.ne, h.ner, fun j => (hb.frozen (p := ⟨e.g, j, none⟩) h.hi).trans (h.fz j), h.len, h.cap, h.rd.step (fun _ hd => ⟨Nat.lt_of_lt_of_le hd.1 hb.size, hd.2⟩) (fun b o hd => hb.cell (p := ⟨b, o, none⟩) hd.1)⟩

theorem CS.below {X : Nat → Prop} {B0 : Nat} {w0 w w' : World} {es ks : List CE} {v : Value} (h : CS X B0 w0 es ks v w) (hb : Below w.heap.size w w') : CS X B0 w0 es ks v w' := by
  obtain ⟨go, hown, hgo, hbw, hle, hok⟩ := h
  exact ⟨go, hown.kept (row := none) ⟨hb.os, hb.tape, hb.output, hb.size, fun j hj _ => hb.block j hj⟩ (by cases hv : v.ownBlock <;> simp), hgo, hbw.trans (hb.mono hle), Nat.le_trans hle hb.size, fun e he => (hok e he).below hb⟩

/-- A slice laid anew into a cell of a fresh block. -/
theorem CS.set {X : Nat → Prop} {B0 : Nat} {w0 w : World} {es ks : List CE} {v : Value} (h : CS X B0 w0 es ks v w) {g o : Nat} (vo vn : Value) (hg : B0 ≤ g) (hne : ∀ go, v.ownBlock = some go → g ≠ go)
    (hR : ∀ go, v.ownBlock = some go → Redir w (w.setCell ⟨g, o, none⟩ vn) (Dm w X go) ⟨g, o, none⟩ vo vn) : CS X B0 w0 es ks v (w.setCell ⟨g, o, none⟩ vn) := by
  obtain ⟨go, hown, hgo, hbw, hle, hok⟩ := h
  have hR := hR go hgo
  have hsz : (w.setCell ⟨g, o, none⟩ vn).heap.size = w.heap.size := by simp [World.setCell]
  have hD : Dm (w.setCell ⟨g, o, none⟩ vn) X go = Dm w X go := by unfold Dm; rw [hsz]
  refine ⟨go, ownsRow_setCell_other hown (by rw [hgo]; intro e; exact hne go hgo (Option.some.inj e).symm) _, hgo, hbw.setCell (p := ⟨g, o, none⟩) hg _, by rw [hsz]; exact hle, fun e he => ?_⟩
  have ho := hok e he
  refine ⟨ho.lo, by rw [hsz]; exact ho.hi, ho.ne, ho.ner, fun j => ?_, ho.len, ho.cap, by rw [hD]; exact hR.rows4 ho.rd⟩
  rw [World.frozen?_setCell]
  exact ho.fz j

/-- One more onto the stack. -/
theorem CS.push {X : Nat → Prop} {B0 : Nat} {w0 w w' : World} {es ks : List CE} {v v' : Value} {o : Obj} (e : CE) (h : CS X B0 w0 es ks v w) (he : ∀ go, v.ownBlock = some go → e.Ok w X go B0)
    (hown' : w'.ownsRow B0 43 1 v' (es.length + 1) (es.map CE.cell ++ [e.cell])) (hg : (w.alloc o).grownBy w' v.ownBlock) (hlie : v'.ownBlock = v.ownBlock ∨ v'.ownBlock = some (w.alloc o).heap.size) : CS X B0 w0 (es ++ [e]) ks v' w' := by
  obtain ⟨go, hown, hgo, hbw, hle, hok⟩ := h
  have hlt := (hown.lt go hgo)
  have hsz : w.heap.size + 1 ≤ w'.heap.size := by have := hg.size; simpa using this
  have hcell : ∀ b o', b < w.heap.size → b ≠ go → w'.cell? ⟨b, o', none⟩ = w.cell? ⟨b, o', none⟩ := fun b o' hb hne =>
    (World.cell?_of_block (a := ⟨b, o', none⟩) ((hg.block b (by simp; omega) (by rw [hgo]; intro e; exact hne (Option.some.inj e))).trans (Below.heap_alloc w o b hb)))
  have hfr : ∀ b o', b < w.heap.size → b ≠ go → w'.frozen? ⟨b, o', none⟩ = w.frozen? ⟨b, o', none⟩ := fun b o' hb hne =>
    (World.frozen?_of_block (a := ⟨b, o', none⟩) ((hg.block b (by simp; omega) (by rw [hgo]; intro e; exact hne (Option.some.inj e))).trans (Below.heap_alloc w o b hb)))
  obtain ⟨go', hgo', hgn⟩ : ∃ go', v'.ownBlock = some go' ∧ (go' = go ∨ w.heap.size ≤ go') := by
    rcases hlie with hl | hl
    · exact ⟨go, hl.trans hgo, .inl rfl⟩
    · exact ⟨_, hl, .inr (by simp)⟩
  have hkeep : ∀ x : CE, x.Ok w X go B0 → x.Ok w' X go' B0 := fun x hx => by
    have hne' : x.g ≠ go' := by
      have h1 := hx.ne
      have h2 := hx.hi
      rcases hgn with rfl | h3
      · exact h1
      · omega
    refine ⟨hx.lo, Nat.lt_of_lt_of_le hx.hi (by omega), hne', hx.ner, fun j => (hfr x.g j hx.hi hx.ne).trans (hx.fz j), hx.len, hx.cap, hx.rd.step (fun b hd => ⟨by have := hd.1; omega, ?_, hd.2.2⟩) (fun b o' hd => hcell b o' hd.1 hd.2.1)⟩
    have h1 := hd.1
    have h2 := hd.2.1
    rcases hgn with rfl | h3
    · exact h2
    · omega
  refine ⟨go', by rw [List.length_append, List.length_singleton, List.map_append]; exact hown', hgo', ?_, by omega, fun x hx => ?_⟩
  · refine hbw.trans ⟨hg.os, hg.tape, hg.output, by omega, fun k hk => ?_⟩
    exact (hg.block k (by simp; omega) (by rw [hgo]; intro e; have := Option.some.inj e; omega)).trans (Below.heap_alloc w o k (by omega))
  · rcases hx with hx | hx
    · rcases List.mem_append.1 hx with hx | hx
      · exact hkeep x (hok x (.inl hx))
      · simp at hx
        subst hx
        exact hkeep x (he go hgo)
    · exact hkeep x (hok x (.inr hx))

/-- One of the entry's values, its cells written out. -/
theorem CE.Ok.elem {w : World} {X : Nat → Prop} {go B0 : Nat} {e : CE} (h : e.Ok w X go B0) {i : Nat} (hi : i < e.xs.length) :
    ∃ y an cn ap cp, Hid (e.xs[i] = y) ∧ RdD w (Dm w X go) e.n y (.agg #[.int .i64 y.k, .string y.s, .slice an y.ns.length cn, .slice ap y.ps.length cp]) ∧
      w.cell? ⟨e.g, i * 4, none⟩ = some (.int .i64 y.k) ∧ w.cell? ⟨e.g, i * 4 + 1, none⟩ = some (.string y.s) ∧ w.cell? ⟨e.g, i * 4 + 2, none⟩ = some (.slice an y.ns.length cn) ∧ w.cell? ⟨e.g, i * 4 + 3, none⟩ = some (.slice ap y.ps.length cp) := by
  obtain ⟨b, off, ea, hb, hc⟩ := h.rd (by omega)
  injection ea with ea
  injection ea with eb eo
  subst eb eo
  obtain ⟨c0, c1, c2, c3, ⟨f0, f1, f2, f3⟩, hR⟩ := hc i _ (List.getElem?_eq_getElem hi)
  obtain ⟨an1, cn1, ap1, cp1, ev⟩ := hR.shape
  injection ev with ev
  have ev' : [c0, c1, c2, c3] = _ := congrArg Array.toList ev
  simp only [List.cons.injEq, and_true] at ev'
  obtain ⟨rfl, rfl, rfl, rfl⟩ := ev'
  rw [Nat.zero_add] at f0 f1 f2 f3
  exact ⟨_, an1, cn1, ap1, cp1, Lib.hid rfl, hR, f0, f1, f2, f3⟩

end Go.Proofs.YtibkncgfdhflgaaGreatDoor

/-
  What jval.copyOf answers: a value that reads as the one that it is given.
-/
namespace Go.Proofs.YtibkncgfdhflgaaGreatDoor
open Go.RowKit

theorem infoList : (Tryz.prog.info? 43).map (fun i => (i.zero, i.size, i.bytes)) = some (some (.slice none 0 0), 1, 24) := by kernel_rfl
theorem infoVal : (Tryz.prog.info? 45).map (fun i => (i.zero, i.size, i.bytes)) = some (some (.agg #[.int .i64 0, .string ⟨#[]⟩, .slice none 0 0, .slice none 0 0]), 4, 72) := by kernel_rfl
theorem infoStr : (Tryz.prog.info? 9).map (fun i => (i.zero, i.size, i.bytes)) = some (some (.string ⟨#[]⟩), 1, 16) := by kernel_rfl

/-- A value that reads as x, through blocks below B or new ones alone. -/
def ValBelow (B n : Nat) (x : JV) (w : World) (e : Ending) (w' : World) : Prop := ∃ v', e = .returned v' ∧ RdD w' (fun b => b < w'.heap.size ∧ (b < B ∨ w.heap.size ≤ b)) n x v' ∧ Below w.heap.size w w'
def XB (B N : Nat) (b : Nat) : Prop := B ≤ b ∧ b < N + 2

def OutRel (X : Nat → Prop) (B0 : Nat) (w0 : World) (T : CE) (k : Nat) (v : Value) (wr : World) : Prop := ∃ es, k = mC es ∧ mC es ≤ 2000001 ∧ CS X B0 w0 es [T] v wr

theorem snocC {α : Type} (l : List α) : l = [] ∨ ∃ i e, l = i ++ [e] := by
  rcases List.eq_nil_or_concat l with h | ⟨i, e, h⟩
  · exact .inl h
  · exact .inr ⟨i, e, by rw [h]; simp⟩

def InRel (X : Nat → Prop) (B0 : Nat) (w0 : World) (T P : CE) (M : Nat) (k : Nat) (i v : Value) (wr : World) : Prop :=
  ∃ (j : Nat) (es : List CE), k = P.xs.length - j ∧ j ≤ P.xs.length ∧ i = .int .i64 j ∧ CS X B0 w0 es [T, P] v wr ∧ mC es + 1 + ((P.xs.drop j).map (nodes P.n)).sum ≤ M

theorem nodes_step (n : Nat) (xs : List JV) (j : Nat) (h : j < xs.length) : ((xs.drop j).map (nodes (n + 1))).sum = 1 + ((xs[j].ps).map (nodes n)).sum + ((xs.drop (j + 1)).map (nodes (n + 1))).sum := by
  rw [List.drop_eq_getElem_cons h, List.map_cons, List.sum_cons]
  rfl

theorem CS.pop {X : Nat → Prop} {B0 : Nat} {w0 w : World} {es ks : List CE} {e : CE} {v : Value} (h : CS X B0 w0 (es ++ [e]) ks v w) :
    ∃ go cap, v = .slice (some ⟨go, 0, none⟩) (es.length + 1) cap ∧ es.length + 1 ≤ cap ∧ w.cell? ⟨go, es.length, none⟩ = some e.cell ∧ CS X B0 w0 es (ks ++ [e]) (.slice (some ⟨go, 0, none⟩) es.length cap) w ∧ e.Ok w X go B0 := by
  obtain ⟨go, hown, hgo, hbw, hle, hok⟩ := h
  rw [List.length_append, List.length_singleton, List.map_append] at hown
  rcases hown.2 with ⟨_, h0⟩ | ⟨g, cap, cur, rfl, _, _, hc, _⟩
  · omega
  · obtain rfl : g = go := by simpa [Value.ownBlock] using hgo
    refine ⟨g, cap, rfl, hc, ?_, ⟨g, ownsRow_pop (by simp) hown, rfl, hbw, hle, fun x hx => hok x ?_⟩, hok e (by simp)⟩
    · rw [hown.cellAt _ (by omega), List.getElem?_append_right (by simp)]
      simp
    · rcases hx with hx | hx
      · exact .inl (by simp [hx])
      · rcases List.mem_append.1 hx with hx | hx
        · exact .inr hx
        · exact .inl (by simp at hx; simp [hx])

theorem CS.lose {X : Nat → Prop} {B0 : Nat} {w0 w : World} {es : List CE} {T P : CE} {v : Value} (h : CS X B0 w0 es [T, P] v w) : CS X B0 w0 es [T] v w := by
  obtain ⟨go, hown, hgo, hbw, hle, hok⟩ := h
  exact ⟨go, hown, hgo, hbw, hle, fun e he => hok e (by rcases he with he | he; exact .inl he; exact .inr (by simp at he; simp [he]))⟩

end Go.Proofs.YtibkncgfdhflgaaGreatDoor

/-
  A reader in a block of its own, and the two rows that a list or an object of values grows by: what is new, what stays.
-/
namespace Go.Proofs.YtibkncgfdhflgaaGreatDoor
open Go.RowKit

/-- Below block n nothing has changed but block R. -/
structure Aw (R n : Nat) (w w' : World) : Prop where
  os : w'.os = w.os
  tape : w'.tape = w.tape
  output : w'.output = w.output
  size : w.heap.size ≤ w'.heap.size
  block : ∀ k, k < n → k ≠ R → w'.heap[k]? = w.heap[k]?

theorem Aw.refl (R n : Nat) (w : World) : Aw R n w w := ⟨rfl, rfl, rfl, Nat.le_refl _, fun _ _ _ => rfl⟩
theorem Aw.trans {R n : Nat} {a b c : World} (h : Aw R n a b) (k : Aw R n b c) : Aw R n a c :=
  ⟨k.os.trans h.os, k.tape.trans h.tape, k.output.trans h.output, Nat.le_trans h.size k.size, fun i hi hr => (k.block i hi hr).trans (h.block i hi hr)⟩
theorem Aw.mono {R n m : Nat} {a b : World} (h : Aw R n a b) (hm : m ≤ n) : Aw R m a b := ⟨h.os, h.tape, h.output, h.size, fun i hi => h.block i (by omega)⟩
theorem Aw.of {R n : Nat} {a b : World} (h : Below n a b) : Aw R n a b := ⟨h.os, h.tape, h.output, h.size, fun i hi _ => h.block i hi⟩
theorem Aw.drew {R n : Nat} {a b : World} (h : Aw R n a b) : Aw R n a b.drew := ⟨h.os, h.tape, h.output, h.size, h.block⟩
theorem Aw.alloc {R n : Nat} {a b : World} (h : Aw R n a b) (hn : n ≤ b.heap.size) (o : Obj) : Aw R n a (b.alloc o) := h.trans (.of ((Below.refl n b).alloc hn o))
theorem Aw.set {R n j : Nat} {a b : World} (h : Aw R n a b) (v : Value) : Aw R n a (b.setCell ⟨R, j, none⟩ v) :=
  h.trans ⟨rfl, rfl, rfl, by simp [World.setCell], fun k _ hr => Below.heap_setCell _ _ _ _ hr⟩
theorem Aw.setNew {R n : Nat} {a b : World} (h : Aw R n a b) {q : Addr} (hq : n ≤ q.block) (v : Value) : Aw R n a (b.setCell q v) := h.trans (.of ((Below.refl n b).setCell hq v))
theorem Aw.cell {R n : Nat} {a b : World} (h : Aw R n a b) {k o : Nat} (hk : k < n) (hr : k ≠ R) : b.cell? ⟨k, o, none⟩ = a.cell? ⟨k, o, none⟩ := World.cell?_of_block (a := ⟨k, o, none⟩) (h.block k hk hr)
theorem Aw.frozen {R n : Nat} {a b : World} (h : Aw R n a b) {k o : Nat} (hk : k < n) (hr : k ≠ R) : b.frozen? ⟨k, o, none⟩ = a.frozen? ⟨k, o, none⟩ := World.frozen?_of_block (a := ⟨k, o, none⟩) (h.block k hk hr)
theorem Aw.below {R n : Nat} {a b : World} (h : Aw R n a b) (hn : n ≤ R) : Below n a b := ⟨h.os, h.tape, h.output, h.size, fun k hk => h.block k hk (by omega)⟩

theorem Aw.drewN {R n : Nat} {a b : World} (h : Aw R n a b) (m : Nat) : Aw R n a (b.drewN m) := ⟨h.os, h.tape, h.output, h.size, h.block⟩
/-- The box of a result, as it is laid. -/
structure Bx (W : World) (B : Nat) : Prop where
  r0 : W.cell? ⟨B, 0, none⟩ = some (.int .i64 0)
  r1 : W.cell? ⟨B, 1, none⟩ = some (.string ⟨#[]⟩)
  r2 : W.cell? ⟨B, 2, none⟩ = some (.slice none 0 0)
  r3 : W.cell? ⟨B, 3, none⟩ = some (.slice none 0 0)
  rf : ∀ j, W.frozen? ⟨B, j, none⟩ = false
theorem Bx.new (w : World) : Bx (w.alloc (.cells #[.int .i64 0, .string ⟨#[]⟩, .slice none 0 0, .slice none 0 0] 45)) w.heap.size := by
  have hb : (w.alloc (.cells #[.int .i64 0, .string ⟨#[]⟩, .slice none 0 0, .slice none 0 0] 45)).heap[w.heap.size]? = some (.cells #[.int .i64 0, .string ⟨#[]⟩, .slice none 0 0, .slice none 0 0] 45 (0, 0)) := heap_alloc_new _ _
  exact ⟨Lib.cell_of_heap hb 0, Lib.cell_of_heap hb 1, Lib.cell_of_heap hb 2, Lib.cell_of_heap hb 3, fun j => by go_simp⟩
theorem Bx.keep {W W' : World} {B : Nat} (h : Bx W B) (hb : W'.heap[B]? = W.heap[B]?) : Bx W' B := by
  have c : ∀ o, W'.cell? ⟨B, o, none⟩ = W.cell? ⟨B, o, none⟩ := fun o => World.cell?_of_block (a := ⟨B, o, none⟩) hb
  exact ⟨(c 0).trans h.r0, (c 1).trans h.r1, (c 2).trans h.r2, (c 3).trans h.r3, fun j => (World.frozen?_of_block (a := ⟨B, j, none⟩) hb).trans (h.rf j)⟩
theorem Bx.lt {W : World} {B : Nat} (h : Bx W B) : B < W.heap.size := by
  have h0 := h.r0
  unfold World.cell? at h0
  by_cases hl : B < W.heap.size
  · exact hl
  · simp only [Array.getElem?_eq_none (show W.heap.size ≤ B by omega)] at h0
    cases h0
theorem Aw.four {R n B : Nat} {a W : World} (h : Aw R n a W) (hB : n ≤ B) (c0 c1 c2 c3 : Value) : Aw R n a ((((W.setCell ⟨B, 0, none⟩ c0).setCell ⟨B, 1, none⟩ c1).setCell ⟨B, 2, none⟩ c2).setCell ⟨B, 3, none⟩ c3) :=
  (((h.setNew (q := ⟨B, 0, none⟩) hB c0).setNew (q := ⟨B, 1, none⟩) hB c1).setNew (q := ⟨B, 2, none⟩) hB c2).setNew (q := ⟨B, 3, none⟩) hB c3
theorem heap_four (W : World) (B : Nat) (c0 c1 c2 c3 : Value) (k : Nat) (h : k ≠ B) : ((((W.setCell ⟨B, 0, none⟩ c0).setCell ⟨B, 1, none⟩ c1).setCell ⟨B, 2, none⟩ c2).setCell ⟨B, 3, none⟩ c3).heap[k]? = W.heap[k]? := by
  rw [Below.heap_setCell _ _ _ _ h, Below.heap_setCell _ _ _ _ h, Below.heap_setCell _ _ _ _ h, Below.heap_setCell _ _ _ _ h]
theorem size_four (W : World) (B : Nat) (c0 c1 c2 c3 : Value) : ((((W.setCell ⟨B, 0, none⟩ c0).setCell ⟨B, 1, none⟩ c1).setCell ⟨B, 2, none⟩ c2).setCell ⟨B, 3, none⟩ c3).heap.size = W.heap.size := by simp [World.setCell]
def leaf (k : Int) (s : ByteArray) : Value := .agg #[.int .i64 k, .string s, .slice none 0 0, .slice none 0 0]

/-- Below block n nothing has changed but blocks R and M. -/
structure Aw2 (R M n : Nat) (w w' : World) : Prop where
  os : w'.os = w.os
  tape : w'.tape = w.tape
  output : w'.output = w.output
  size : w.heap.size ≤ w'.heap.size
  block : ∀ k, k < n → k ≠ R → k ≠ M → w'.heap[k]? = w.heap[k]?

theorem Aw2.of {R M n : Nat} {w W w3 : World} (ha : Aw R n w W) (hn : n ≤ W.heap.size) (hg : W.grownBy w3 (some M)) : Aw2 R M n w w3 :=
  ⟨hg.os.trans ha.os, hg.tape.trans ha.tape, hg.output.trans ha.output, Nat.le_trans ha.size hg.size, fun k hk hr hm => (hg.block k (by omega) (fun e => hm (by injection e))).trans (ha.block k hk hr)⟩

def JD (w : World) (M : Nat) (W : World) (vN vL : Value) (b : Nat) : Prop := w.heap.size + 2 ≤ b ∧ b < W.heap.size ∧ vN.ownBlock ≠ some b ∧ vL.ownBlock ≠ some b ∧ b ≠ M
def RowsC (W : World) (D : Nat → Prop) (dd : Nat) (cs : List Value) (xs : List JV) : Prop :=
  ∀ i x, xs[i]? = some x → ∃ c0 c1 c2 c3, cs[i * 4]? = some c0 ∧ cs[i * 4 + 1]? = some c1 ∧ cs[i * 4 + 2]? = some c2 ∧ cs[i * 4 + 3]? = some c3 ∧ RdD W D dd x (.agg #[c0, c1, c2, c3])
theorem RowsC.step {w w' : World} {D D' : Nat → Prop} {dd : Nat} {cs : List Value} {xs : List JV} (h : RowsC w D dd cs xs) (hD : ∀ b, D b → D' b) (hk : ∀ b o, D b → w'.cell? ⟨b, o, none⟩ = w.cell? ⟨b, o, none⟩) : RowsC w' D' dd cs xs := fun i x hx => by
  obtain ⟨c0, c1, c2, c3, h0, h1, h2, h3, hR⟩ := h i x hx
  exact ⟨c0, c1, c2, c3, h0, h1, h2, h3, RdD.step hD hk hR⟩

/-- The box of the result lies in block w.heap.size, that of the value in the next one; the map of the names (or the reader, where there is none) in block M. -/
structure JSt (w : World) (R M : Nat) (kk : Int) (dd : Nat) (ns : List ByteArray) (xs : List JV) (cs : List Value) (vN vL : Value) (W : World) : Prop where
  aw : Aw R w.heap.size w W
  sz : w.heap.size + 2 ≤ W.heap.size
  b0 : W.cell? ⟨w.heap.size + 1, 0, none⟩ = some (.int .i64 kk)
  b1 : W.cell? ⟨w.heap.size + 1, 1, none⟩ = some (.string ⟨#[]⟩)
  b2 : W.cell? ⟨w.heap.size + 1, 2, none⟩ = some vN
  b3 : W.cell? ⟨w.heap.size + 1, 3, none⟩ = some vL
  bf : ∀ j, W.frozen? ⟨w.heap.size + 1, j, none⟩ = false
  bx : Bx W w.heap.size
  oN : W.ownsRow (w.heap.size + 2) 9 1 vN ns.length (ns.map Value.string)
  oL : W.ownsRow (w.heap.size + 2) 45 4 vL xs.length cs
  ne : ∀ g, vN.ownBlock = some g → vL.ownBlock ≠ some g
  rd : RowsC W (JD w M W vN vL) dd cs xs
  mM : M = R ∨ w.heap.size + 2 ≤ M
  mN : vN.ownBlock ≠ some M
  mL : vL.ownBlock ≠ some M

theorem ownsRow_block {w w' : World} {base : Nat} {e : TypeId} {size : Nat} {v : Value} {n : Nat} {xs : List Value} (h : w.ownsRow base e size v n xs) (hb : ∀ g, v.ownBlock = some g → w'.heap[g]? = w.heap[g]?) : w'.ownsRow base e size v n xs := by
  refine ⟨h.1, ?_⟩
  rcases h.2 with h0 | ⟨g, cap, cur, hv, hbs, hg, r⟩
  · exact .inl h0
  · refine .inr ⟨g, cap, cur, hv, hbs, ?_, r⟩
    rw [hb g (by rw [hv]; rfl)]
    exact hg

/-- Nothing older has changed but the reader and the map. -/
theorem JSt.grow {w W W' : World} {R M : Nat} {kk : Int} {dd : Nat} {ns : List ByteArray} {xs : List JV} {cs : List Value} {vN vL : Value} (h : JSt w R M kk dd ns xs cs vN vL W) (hR : R < w.heap.size) (hb : Aw2 R M W.heap.size W W') : JSt w R M kk dd ns xs cs vN vL W' := by
  have hs := h.sz
  have hz := hb.size
  have hm := h.mM
  have blk : ∀ b, b < W.heap.size → b ≠ R → b ≠ M → W'.heap[b]? = W.heap[b]? := hb.block
  have c : ∀ b o, b < W.heap.size → b ≠ R → b ≠ M → W'.cell? ⟨b, o, none⟩ = W.cell? ⟨b, o, none⟩ := fun b o hl h1 h2 => World.cell?_of_block (a := ⟨b, o, none⟩) (blk b hl h1 h2)
  have c1 : ∀ o, W'.cell? ⟨w.heap.size + 1, o, none⟩ = W.cell? ⟨w.heap.size + 1, o, none⟩ := fun o => c _ _ (by omega) (by omega) (by omega)
  refine ⟨h.aw.trans ⟨hb.os, hb.tape, hb.output, hb.size, fun k hk hr => ?_⟩, by omega, (c1 0).trans h.b0, (c1 1).trans h.b1, (c1 2).trans h.b2, (c1 3).trans h.b3, fun j => (World.frozen?_of_block (a := ⟨w.heap.size + 1, j, none⟩) (blk (w.heap.size + 1) (by omega) (by omega) (by omega))).trans (h.bf j),
    h.bx.keep (blk _ (by omega) (by omega) (by omega)), ownsRow_block h.oN (fun g e => ?_), ownsRow_block h.oL (fun g e => ?_), h.ne, h.rd.step (fun b hd => ⟨hd.1, by have := hd.2.1; omega, hd.2.2⟩) (fun b o hd => c b o hd.2.1 (by have := hd.1; omega) hd.2.2.2.2), h.mM, h.mN, h.mL⟩
  · by_cases hkM : k = M
    · rcases hm with e | e
      · exact absurd (hkM.trans e) hr
      · omega
    · exact blk k (by omega) hr hkM
  · have h1 := h.oN.lt g e
    exact blk g (by omega) (by omega) (fun e2 => h.mN (by rw [e, e2]))
  · have h1 := h.oL.lt g e
    exact blk g (by omega) (by omega) (fun e2 => h.mL (by rw [e, e2]))

/-- One more in the list. -/
theorem JSt.list {w W W' : World} {R M : Nat} {kk : Int} {dd : Nat} {ns : List ByteArray} {xs : List JV} {cs : List Value} {vN vL vL' : Value} {x : JV} {c0 c1 c2 c3 : Value} (h : JSt w R M kk dd ns xs cs vN vL W)
    (hx : RdD W (JD w M W vN vL) dd x (.agg #[c0, c1, c2, c3])) (hown : W'.ownsRow (w.heap.size + 2) 45 4 vL' (xs.length + 1) (cs ++ [c0, c1, c2, c3])) (hg : W.grownBy W' vL.ownBlock)
    (hlie : vL'.ownBlock = vL.ownBlock ∨ vL'.ownBlock = some W.heap.size) (hM : M < W.heap.size) : JSt w R M kk dd ns (xs ++ [x]) (cs ++ [c0, c1, c2, c3]) vN vL' (W'.setCell ⟨w.heap.size + 1, 3, none⟩ vL') := by
  have hs := h.sz
  have hz := hg.size
  have hLlt : ∀ g, vL.ownBlock = some g → w.heap.size + 2 ≤ g := fun g e => (h.oL.lt g e).1
  have hL'lt : ∀ g, vL'.ownBlock = some g → w.heap.size + 2 ≤ g := fun g e => (hown.lt g e).1
  have hNlt : ∀ g, vN.ownBlock = some g → w.heap.size + 2 ≤ g ∧ g < W.heap.size := fun g e => h.oN.lt g e
  have hblk : ∀ b, b < W.heap.size → vL.ownBlock ≠ some b → W'.heap[b]? = W.heap[b]? := fun b hb hn => hg.block b hb (by first | exact hn | exact fun e => hn e.symm)
  have hb : ∀ b o, b < W.heap.size → vL.ownBlock ≠ some b → b ≠ w.heap.size + 1 → (W'.setCell ⟨w.heap.size + 1, 3, none⟩ vL').cell? ⟨b, o, none⟩ = W.cell? ⟨b, o, none⟩ := fun b o hb hn hne => by
    rw [World.cell?_setCell_other _ _ _ _ (by intro e; have := congrArg Addr.block e; simp at this; omega)]
    exact World.cell?_of_block (a := ⟨b, o, none⟩) (hblk b hb hn)
  have hbox : ∀ o, W'.cell? ⟨w.heap.size + 1, o, none⟩ = W.cell? ⟨w.heap.size + 1, o, none⟩ := fun o => World.cell?_of_block (a := ⟨w.heap.size + 1, o, none⟩) (hblk (w.heap.size + 1) (by omega) (fun e => by have := hLlt _ e; omega))
  have hbo : ∀ o, o ≠ 3 → (W'.setCell ⟨w.heap.size + 1, 3, none⟩ vL').cell? ⟨w.heap.size + 1, o, none⟩ = W.cell? ⟨w.heap.size + 1, o, none⟩ := fun o ho => by
    rw [World.cell?_setCell_other _ _ _ _ (by intro e; injection e with _ e; omega)]
    exact hbox o
  have hfz : ∀ b o, b < W.heap.size → vL.ownBlock ≠ some b → (W'.setCell ⟨w.heap.size + 1, 3, none⟩ vL').frozen? ⟨b, o, none⟩ = W.frozen? ⟨b, o, none⟩ := fun b o hb hn => by
    rw [World.frozen?_setCell]
    exact World.frozen?_of_block (a := ⟨b, o, none⟩) (hblk b hb hn)
  have hsz : (W'.setCell ⟨w.heap.size + 1, 3, none⟩ vL').heap.size = W'.heap.size := by simp [World.setCell]
  have hr : ∀ o, (W'.setCell ⟨w.heap.size + 1, 3, none⟩ vL').cell? ⟨w.heap.size, o, none⟩ = W.cell? ⟨w.heap.size, o, none⟩ := fun o => hb _ o (by omega) (fun e => by have := hLlt _ e; omega) (by omega)
  have hD : ∀ b, JD w M W vN vL b → JD w M (W'.setCell ⟨w.heap.size + 1, 3, none⟩ vL') vN vL' b := fun b hd => ⟨hd.1, by rw [hsz]; have := hd.2.1; omega, hd.2.2.1, (by
    rcases hlie with e | e
    · rw [e]; exact hd.2.2.2.1
    · rw [e]; intro e2; have := Option.some.inj e2; have := hd.2.1; omega), hd.2.2.2.2⟩
  have hk : ∀ b o, JD w M W vN vL b → (W'.setCell ⟨w.heap.size + 1, 3, none⟩ vL').cell? ⟨b, o, none⟩ = W.cell? ⟨b, o, none⟩ := fun b o hd => hb b o hd.2.1 hd.2.2.2.1 (by have := hd.1; omega)
  have hcl : cs.length = xs.length * 4 := h.oL.1
  refine ⟨?_, by rw [hsz]; omega, (hbo 0 (by decide)).trans h.b0, (hbo 1 (by decide)).trans h.b1, (hbo 2 (by decide)).trans h.b2, World.cell?_setCell_same _ _ _ ((hbox 3).trans h.b3), fun j => (hfz _ j (by omega) (fun e => by have := hLlt _ e; omega)).trans (h.bf j),
    ⟨(hr 0).trans h.bx.r0, (hr 1).trans h.bx.r1, (hr 2).trans h.bx.r2, (hr 3).trans h.bx.r3, fun j => (hfz _ j (by omega) (fun e => by have := hLlt _ e; omega)).trans (h.bx.rf j)⟩, ?_, ?_, ?_, ?_, h.mM, h.mN, ?_⟩
  · refine (h.aw.trans (c := W') ⟨hg.os, hg.tape, hg.output, by omega, fun k hk _ => hblk k (by omega) (fun e => by have := hLlt _ e; omega)⟩).setNew (q := ⟨w.heap.size + 1, 3, none⟩) (by show _ ≤ w.heap.size + 1; omega) _
  · refine ownsRow_setCell_other (h.oN.kept hg ?_) ?_ _
    · cases hv : vN.ownBlock with
      | none => exact .inl rfl
      | some g => exact .inr (fun e => h.ne g hv e.symm)
    · intro e; have h1 : w.heap.size + 2 ≤ w.heap.size + 1 ∧ _ := hNlt _ e; omega
  · rw [List.length_append, List.length_singleton]
    exact ownsRow_setCell_other hown (by intro e; have h1 : w.heap.size + 2 ≤ w.heap.size + 1 := hL'lt _ e; omega) _
  · intro g e
    rcases hlie with e2 | e2
    · rw [e2]; exact h.ne g e
    · rw [e2]; intro e3; have := Option.some.inj e3; have := hNlt _ e; omega
  · intro i y hy
    by_cases hi : i < xs.length
    · rw [List.getElem?_append_left hi] at hy
      obtain ⟨d0, d1, d2, d3, h0, h1, h2, h3, hR⟩ := h.rd i y hy
      exact ⟨d0, d1, d2, d3, by rw [List.getElem?_append_left (by omega)]; exact h0, by rw [List.getElem?_append_left (by omega)]; exact h1, by rw [List.getElem?_append_left (by omega)]; exact h2, by rw [List.getElem?_append_left (by omega)]; exact h3, RdD.step hD hk hR⟩
    · have hlt := (List.getElem?_eq_some_iff.1 hy).1
      rw [List.length_append, List.length_singleton] at hlt
      obtain rfl : i = xs.length := by omega
      rw [List.getElem?_append_right (Nat.le_refl _), Nat.sub_self] at hy
      simp at hy
      subst hy
      refine ⟨c0, c1, c2, c3, ?_, ?_, ?_, ?_, RdD.step hD hk hx⟩ <;> rw [List.getElem?_append_right (by omega), hcl]
      · simp
      · rw [Nat.add_sub_cancel_left]; rfl
      · rw [Nat.add_sub_cancel_left]; rfl
      · rw [Nat.add_sub_cancel_left]; rfl
  · rcases hlie with e | e
    · rw [e]; exact h.mL
    · rw [e]; intro e2; have := Option.some.inj e2; omega

/-- One more name. -/
theorem JSt.name {w W W' : World} {R M : Nat} {kk : Int} {dd : Nat} {ns : List ByteArray} {xs : List JV} {cs : List Value} {vN vL vN' : Value} {s : ByteArray} (h : JSt w R M kk dd ns xs cs vN vL W)
    (hown : W'.ownsRow (w.heap.size + 2) 9 1 vN' (ns.length + 1) (ns.map Value.string ++ [.string s])) (hg : W.grownBy W' vN.ownBlock)
    (hlie : vN'.ownBlock = vN.ownBlock ∨ vN'.ownBlock = some W.heap.size) (hM : M < W.heap.size) : JSt w R M kk dd (ns ++ [s]) xs cs vN' vL (W'.setCell ⟨w.heap.size + 1, 2, none⟩ vN') := by
  have hs := h.sz
  have hz := hg.size
  have hLlt : ∀ g, vN.ownBlock = some g → w.heap.size + 2 ≤ g := fun g e => (h.oN.lt g e).1
  have hL'lt : ∀ g, vN'.ownBlock = some g → w.heap.size + 2 ≤ g := fun g e => (hown.lt g e).1
  have hNlt : ∀ g, vL.ownBlock = some g → w.heap.size + 2 ≤ g ∧ g < W.heap.size := fun g e => h.oL.lt g e
  have hblk : ∀ b, b < W.heap.size → vN.ownBlock ≠ some b → W'.heap[b]? = W.heap[b]? := fun b hb hn => hg.block b hb (by first | exact hn | exact fun e => hn e.symm)
  have hb : ∀ b o, b < W.heap.size → vN.ownBlock ≠ some b → b ≠ w.heap.size + 1 → (W'.setCell ⟨w.heap.size + 1, 2, none⟩ vN').cell? ⟨b, o, none⟩ = W.cell? ⟨b, o, none⟩ := fun b o hb hn hne => by
    rw [World.cell?_setCell_other _ _ _ _ (by intro e; have := congrArg Addr.block e; simp at this; omega)]
    exact World.cell?_of_block (a := ⟨b, o, none⟩) (hblk b hb hn)
  have hbox : ∀ o, W'.cell? ⟨w.heap.size + 1, o, none⟩ = W.cell? ⟨w.heap.size + 1, o, none⟩ := fun o => World.cell?_of_block (a := ⟨w.heap.size + 1, o, none⟩) (hblk (w.heap.size + 1) (by omega) (fun e => by have := hLlt _ e; omega))
  have hbo : ∀ o, o ≠ 2 → (W'.setCell ⟨w.heap.size + 1, 2, none⟩ vN').cell? ⟨w.heap.size + 1, o, none⟩ = W.cell? ⟨w.heap.size + 1, o, none⟩ := fun o ho => by
    rw [World.cell?_setCell_other _ _ _ _ (by intro e; injection e with _ e; omega)]
    exact hbox o
  have hfz : ∀ b o, b < W.heap.size → vN.ownBlock ≠ some b → (W'.setCell ⟨w.heap.size + 1, 2, none⟩ vN').frozen? ⟨b, o, none⟩ = W.frozen? ⟨b, o, none⟩ := fun b o hb hn => by
    rw [World.frozen?_setCell]
    exact World.frozen?_of_block (a := ⟨b, o, none⟩) (hblk b hb hn)
  have hsz : (W'.setCell ⟨w.heap.size + 1, 2, none⟩ vN').heap.size = W'.heap.size := by simp [World.setCell]
  have hr : ∀ o, (W'.setCell ⟨w.heap.size + 1, 2, none⟩ vN').cell? ⟨w.heap.size, o, none⟩ = W.cell? ⟨w.heap.size, o, none⟩ := fun o => hb _ o (by omega) (fun e => by have := hLlt _ e; omega) (by omega)
  refine ⟨?_, by rw [hsz]; omega, (hbo 0 (by decide)).trans h.b0, (hbo 1 (by decide)).trans h.b1, World.cell?_setCell_same _ _ _ ((hbox 2).trans h.b2), (hbo 3 (by decide)).trans h.b3, fun j => (hfz _ j (by omega) (fun e => by have := hLlt _ e; omega)).trans (h.bf j),
    ⟨(hr 0).trans h.bx.r0, (hr 1).trans h.bx.r1, (hr 2).trans h.bx.r2, (hr 3).trans h.bx.r3, fun j => (hfz _ j (by omega) (fun e => by have := hLlt _ e; omega)).trans (h.bx.rf j)⟩, ?_, ?_, ?_, ?_, h.mM, ?_, h.mL⟩
  · refine (h.aw.trans (c := W') ⟨hg.os, hg.tape, hg.output, by omega, fun k hk _ => hblk k (by omega) (fun e => by have := hLlt _ e; omega)⟩).setNew (q := ⟨w.heap.size + 1, 2, none⟩) (by show _ ≤ w.heap.size + 1; omega) _
  · rw [List.length_append, List.length_singleton, List.map_append]
    exact ownsRow_setCell_other hown (by intro e; have h1 : w.heap.size + 2 ≤ w.heap.size + 1 := hL'lt _ e; omega) _
  · refine ownsRow_setCell_other (h.oL.kept hg ?_) ?_ _
    · cases hv : vL.ownBlock with
      | none => exact .inl rfl
      | some g => exact .inr (fun e => h.ne g e.symm hv)
    · intro e; have h1 : w.heap.size + 2 ≤ w.heap.size + 1 ∧ _ := hNlt _ e; omega
  · intro g e e2
    rcases hlie with e3 | e3
    · rw [e3] at e; exact h.ne g e e2
    · rw [e3] at e; have := Option.some.inj e; have := hNlt _ e2; omega
  · refine h.rd.step (fun b hd => ⟨hd.1, by rw [hsz]; have := hd.2.1; omega, ?_, hd.2.2.2⟩) (fun b o hd => hb b o hd.2.1 hd.2.2.1 (by have := hd.1; omega))
    rcases hlie with e | e
    · rw [e]; exact hd.2.2.1
    · rw [e]; intro e2; have := Option.some.inj e2; have := hd.2.1; omega
  · rcases hlie with e | e
    · rw [e]; exact h.mN
    · rw [e]; intro e2; have := Option.some.inj e2; omega

theorem Aw2.ofAw {R n : Nat} {w w' : World} (h : Aw R n w w') (M : Nat) : Aw2 R M n w w' := ⟨h.os, h.tape, h.output, h.size, fun k hk hr _ => h.block k hk hr⟩
theorem Aw2.drew {R M n : Nat} {w w' : World} (h : Aw2 R M n w w') : Aw2 R M n w w'.drew := ⟨h.os, h.tape, h.output, h.size, h.block⟩

theorem cell_four_new (w : World) (c0 c1 c2 c3 : Value) (t : TypeId) : ∀ j u, [c0, c1, c2, c3][j]? = some u → (w.alloc (.cells #[c0, c1, c2, c3] t)).cell? ((⟨w.heap.size, 0, none⟩ : Addr).add j) = some u := by
  intro j u hj
  rw [Go.WideShapes.add_plain, Nat.zero_add]
  have hb : (w.alloc (.cells #[c0, c1, c2, c3] t)).heap[w.heap.size]? = some (.cells #[c0, c1, c2, c3] t (0, 0)) := heap_alloc_new _ _
  rw [Lib.cell_of_heap hb j]
  rw [← hj, ← Array.getElem?_toList]
theorem four_one (k : Int) (s : ByteArray) (an : Option Addr) (n cn : Nat) (ap : Option Addr) (m cp : Nat) : ∀ u ∈ [Value.int .i64 k, .string s, .slice an n cn, .slice ap m cp], u.oneCell' = true := by
  intro u hu
  simp at hu
  rcases hu with rfl | rfl | rfl | rfl <;> rfl

theorem jst_init (w W : World) (R M : Nat) (kk : Int) (dd : Nat) (hR : R < w.heap.size) (hM : M = R ∨ w.heap.size + 2 ≤ M) (ha : Aw R (w.heap.size + 2) ((w.alloc (.cells #[.int .i64 0, .string ⟨#[]⟩, .slice none 0 0, .slice none 0 0] 45)).alloc (.cells #[.int .i64 kk, .string ⟨#[]⟩, .slice none 0 0, .slice none 0 0] 45)) W) :
    JSt w R M kk dd [] [] [] (.slice none 0 0) (.slice none 0 0) W := by
  obtain ⟨W0, hW⟩ : ∃ W0, W0 = ((w.alloc (.cells #[.int .i64 0, .string ⟨#[]⟩, .slice none 0 0, .slice none 0 0] 45)).alloc (.cells #[.int .i64 kk, .string ⟨#[]⟩, .slice none 0 0, .slice none 0 0] 45)) := ⟨_, rfl⟩
  rw [← hW] at ha
  have hb : Below w.heap.size w W0 := by
    rw [hW]
    exact ((Below.refl _ w).alloc (Nat.le_refl _) _).alloc (by simp) _
  have hs : W0.heap.size = w.heap.size + 2 := by rw [hW]; simp
  have c1 : ∀ j, W.cell? ⟨w.heap.size + 1, j, none⟩ = (#[Value.int .i64 kk, .string ⟨#[]⟩, .slice none 0 0, .slice none 0 0] : Array Value)[j]? := fun j => by
    rw [ha.cell (by omega) (by omega), hW]; go_simp
  have f1 : ∀ j, W.frozen? ⟨w.heap.size + 1, j, none⟩ = false := fun j => by
    rw [ha.frozen (by omega) (by omega), hW]; go_simp
  have hx : Bx W0 w.heap.size := by
    rw [hW]
    exact (Bx.new w).keep (Below.heap_alloc _ _ _ (by simp))
  refine ⟨(Aw.of hb).trans (ha.mono (by omega)), by have := ha.size; omega, c1 0, c1 1, c1 2, c1 3, f1, hx.keep (ha.block _ (by omega) (by omega)), World.ownsRow_nil _ _ _ _, World.ownsRow_nil _ _ _ _, (fun g e => by cases e), (fun i x hx => by simp at hx), hM, (fun e => by cases e), (fun e => by cases e)⟩

/-- What comes out of a list or an object: its value lies in new blocks. -/
theorem JSt.doneB {w W : World} {R M : Nat} {kk : Int} {dd : Nat} {ns : List ByteArray} {xs : List JV} {cs : List Value} {vN vL : Value} (h : JSt w R M kk dd ns xs cs vN vL W) (hx : xs.length ≤ 1000000) (hn : ns.length ≤ 1000000) (hz : ∀ m ∈ ns, m.size ≤ 1000000) (W' : World)
    (hc : ∀ b o, b ≠ w.heap.size → W'.cell? ⟨b, o, none⟩ = W.cell? ⟨b, o, none⟩) (hsz : W'.heap.size = W.heap.size) :
    RdD W' (fun b => w.heap.size ≤ b ∧ b < W'.heap.size) (dd + 1) (.mk kk ⟨#[]⟩ ns xs) (.agg #[.int .i64 kk, .string ⟨#[]⟩, vN, vL]) := by
  have hs := h.sz
  obtain ⟨aN, cN, rfl, hcN, hN⟩ := fresh_row h.oN
  obtain ⟨aL, cL, rfl, hcL, hL⟩ := fresh_row h.oL
  have hcl : cs.length = xs.length * 4 := h.oL.1
  refine ⟨aN, cN, aL, cL, rfl, ⟨Nat.zero_le _, by show ns.length ≤ _; omega, by show xs.length ≤ _; omega, hcN, hcL⟩, fun hp => ?_, fun hp => ?_⟩
  · obtain ⟨g, rfl, hg1, hg2, _, hg3⟩ := hN hp
    refine ⟨g, 0, rfl, ⟨by omega, by omega⟩, fun j s hj => ?_⟩
    have hlt : j < ns.length := (List.getElem?_eq_some_iff.1 hj).1
    refine ⟨Nat.le_trans (hz s (List.mem_of_getElem? hj)) (by decide), ?_⟩
    rw [hc g _ (by omega), Nat.zero_add, hg3 j (by omega), List.getElem?_map]
    have hj' : ns[j]? = some s := hj
    rw [hj']; rfl
  · obtain ⟨g, rfl, hg1, hg2, _, hg3⟩ := hL hp
    refine ⟨g, 0, rfl, ⟨by omega, by omega⟩, fun i x hx => ?_⟩
    have hlt : i < xs.length := (List.getElem?_eq_some_iff.1 hx).1
    obtain ⟨d0, d1, d2, d3, h0, h1, h2, h3, hR⟩ := h.rd i x hx
    have hat : ∀ k u, k < 4 → cs[i * 4 + k]? = some u → W'.cell? ⟨g, 0 + i * 4 + k, none⟩ = some u := fun k u hk hu => by
      rw [hc g _ (by omega), Nat.zero_add, hg3 (i * 4 + k) (by omega)]
      exact hu
    exact ⟨d0, d1, d2, d3, ⟨hat 0 d0 (by omega) h0, hat 1 d1 (by omega) h1, hat 2 d2 (by omega) h2, hat 3 d3 (by omega) h3⟩, RdD.step (fun b hd => ⟨by have := hd.1; omega, by rw [hsz]; exact hd.2.1⟩) (fun b o hd => hc b o (by have := hd.1; omega)) hR⟩

theorem JSt.done {w W : World} {R M : Nat} {kk : Int} {dd : Nat} {ns : List ByteArray} {xs : List JV} {cs : List Value} {vN vL : Value} (h : JSt w R M kk dd ns xs cs vN vL W) (hx : xs.length ≤ 4000) (hn : ns.length ≤ 4000) (hz : ∀ m ∈ ns, m.size ≤ 16000) (W' : World)
    (hc : ∀ b o, b ≠ w.heap.size → W'.cell? ⟨b, o, none⟩ = W.cell? ⟨b, o, none⟩) (hsz : W'.heap.size = W.heap.size) :
    RdD W' (fun b => w.heap.size ≤ b ∧ b < W'.heap.size) (dd + 1) (.mk kk ⟨#[]⟩ ns xs) (.agg #[.int .i64 kk, .string ⟨#[]⟩, vN, vL]) :=
  h.doneB (by omega) (by omega) (fun m hm => Nat.le_trans (hz m hm) (by decide)) W' hc hsz

theorem JSt.boxL {w W W' : World} {R M : Nat} {kk : Int} {dd : Nat} {ns : List ByteArray} {xs : List JV} {cs : List Value} {vN vL : Value} (h : JSt w R M kk dd ns xs cs vN vL W) (hg : W.grownBy W' vL.ownBlock) :
    (∀ o, W'.cell? ⟨w.heap.size + 1, o, none⟩ = W.cell? ⟨w.heap.size + 1, o, none⟩) ∧ ∀ o, W'.frozen? ⟨w.heap.size + 1, o, none⟩ = false := by
  have hs := h.sz
  have hblk : W'.heap[w.heap.size + 1]? = W.heap[w.heap.size + 1]? := hg.block _ (by omega) (fun e => by
    have := (h.oL.lt (w.heap.size + 1) (by first | exact e | exact e.symm)).1; omega)
  exact ⟨fun o => World.cell?_of_block (a := ⟨w.heap.size + 1, o, none⟩) hblk, fun o => (World.frozen?_of_block (a := ⟨w.heap.size + 1, o, none⟩) hblk).trans (h.bf o)⟩
theorem JSt.boxN {w W W' : World} {R M : Nat} {kk : Int} {dd : Nat} {ns : List ByteArray} {xs : List JV} {cs : List Value} {vN vL : Value} (h : JSt w R M kk dd ns xs cs vN vL W) (hg : W.grownBy W' vN.ownBlock) :
    (∀ o, W'.cell? ⟨w.heap.size + 1, o, none⟩ = W.cell? ⟨w.heap.size + 1, o, none⟩) ∧ ∀ o, W'.frozen? ⟨w.heap.size + 1, o, none⟩ = false := by
  have hs := h.sz
  have hblk : W'.heap[w.heap.size + 1]? = W.heap[w.heap.size + 1]? := hg.block _ (by omega) (fun e => by
    have := (h.oN.lt (w.heap.size + 1) (by first | exact e | exact e.symm)).1; omega)
  exact ⟨fun o => World.cell?_of_block (a := ⟨w.heap.size + 1, o, none⟩) hblk, fun o => (World.frozen?_of_block (a := ⟨w.heap.size + 1, o, none⟩) hblk).trans (h.bf o)⟩

theorem Aw.fromDrew {R n : Nat} {w w' : World} (h : Aw R n w.drew w') : Aw R n w w' := ⟨h.os, h.tape, h.output, h.size, h.block⟩
/-- A value has been read, and its cells laid once more: the list as it was, and the value. -/
theorem list_arm {w W w3 : World} {R M : Nat} {kk : Int} {f : Nat} {ns : List ByteArray} {xs : List JV} {cs : List Value} {vN vL : Value} (h : JSt w R M kk f ns xs cs vN vL W) (hR : R < w.heap.size) (hM : M < W.heap.size) (ha : Aw R W.heap.size W w3) {x : JV} {c0 c1 c2 c3 : Value}
    (hx : RdD w3 (fun b => W.heap.size ≤ b ∧ b < w3.heap.size) f x (.agg #[c0, c1, c2, c3])) : w3.cell? ⟨w.heap.size + 1, 3, none⟩ = some vL ∧ JSt w R M kk f ns xs cs vN vL (w3.alloc (.cells #[c0, c1, c2, c3] 45)) ∧
      RdD (w3.alloc (.cells #[c0, c1, c2, c3] 45)) (JD w M (w3.alloc (.cells #[c0, c1, c2, c3] 45)) vN vL) f x (.agg #[c0, c1, c2, c3]) := by
  have h3 := h.grow hR (Aw2.ofAw ha M)
  have h4 := h3.grow hR (Aw2.ofAw ((Aw.refl R w3.heap.size w3).alloc (Nat.le_refl _) (.cells #[c0, c1, c2, c3] 45)) M)
  refine ⟨h3.b3, h4, RdD.step (fun b hd => ⟨Nat.le_trans h.sz hd.1, by simp; omega, fun e => ?_, fun e => ?_, fun e => ?_⟩) (fun b o hd => World.cell?_of_block (a := ⟨b, o, none⟩) (Below.heap_alloc _ _ _ hd.2)) hx⟩
  · have := (h.oN.lt b e).2; omega
  · have := (h.oL.lt b e).2; omega
  · omega

theorem str_one (x : ByteArray) : ∀ u ∈ [Value.string x], u.oneCell' = true := by
  intro u hu
  simp at hu
  subst hu
  rfl


theorem RdD.lift {w : World} {D : Nat → Prop} : ∀ {n : Nat} {x : JV} {v : Value}, RdD w D n x v → RdD w D (n + 1) x v
  | 0, _, _, h => h.elim
  | _ + 1, _, _, h => by
    obtain ⟨an, cn, ap, cp, e, hz, hs, hr⟩ := h
    refine ⟨an, cn, ap, cp, e, hz, hs, fun hp => ?_⟩
    obtain ⟨b, off, e, hb, hc⟩ := hr hp
    refine ⟨b, off, e, hb, fun i x hx => ?_⟩
    obtain ⟨c0, c1, c2, c3, h4, hR⟩ := hc i x hx
    exact ⟨c0, c1, c2, c3, h4, RdD.lift hR⟩

theorem rd_leaf (W : World) (D : Nat → Prop) (n : Nat) (k : Int) (s : ByteArray) (hs : s.size ≤ 2000000) : RdD W D (n + 1) (.mk k s [] []) (leaf k s) :=
  ⟨none, 0, none, 0, rfl, ⟨hs, Nat.zero_le _, Nat.zero_le _, Nat.le_refl _, Nat.le_refl _⟩, fun h => absurd h (Nat.lt_irrefl 0), fun h => absurd h (Nat.lt_irrefl 0)⟩

/-- A value that was made, behind the store into the box of the result. -/
theorem rd_boxed {w w1 w2 : World} {n : Nat} {x : JV} {v : Value} (hs : w.heap.size < w1.heap.size) (h : RdD w2 (fun b => w1.heap.size ≤ b ∧ b < w2.heap.size) n x v) (c0 c1 c2 c3 : Value) :
    RdD ((((w2.setCell ⟨w.heap.size, 0, none⟩ c0).setCell ⟨w.heap.size, 1, none⟩ c1).setCell ⟨w.heap.size, 2, none⟩ c2).setCell ⟨w.heap.size, 3, none⟩ c3) (fun b => w.heap.size ≤ b ∧ b < ((((w2.setCell ⟨w.heap.size, 0, none⟩ c0).setCell ⟨w.heap.size, 1, none⟩ c1).setCell ⟨w.heap.size, 2, none⟩ c2).setCell ⟨w.heap.size, 3, none⟩ c3).heap.size) n x v :=
  RdD.step (fun b hd => ⟨by omega, by rw [size_four]; exact hd.2⟩) (fun b o hd => World.cell?_of_block (a := ⟨b, o, none⟩) (heap_four _ _ _ _ _ _ b (by omega))) h


end Go.Proofs.YtibkncgfdhflgaaGreatDoor
