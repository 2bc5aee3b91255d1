/-
  Values of package api as trees: what it is to read as one.
-/
import Derived.Test.YtiblffipfldgjaaGreatDoorSmall
namespace Go.Proofs.YtiblffipfldgjaaGreatDoor
open Go.RowKit

inductive JV where
  | mk (k : Int) (s : ByteArray) (ns : List ByteArray) (ps : List JV)

def JV.k : JV → Int
  | .mk k _ _ _ => k
def JV.s : JV → ByteArray
  | .mk _ s _ _ => s
def JV.ns : JV → List ByteArray
  | .mk _ _ ns _ => ns
def JV.ps : JV → List JV
  | .mk _ _ _ ps => ps

/-- A slice of strings that reads as ns, below block B. -/
def Strs (w : World) (B : Nat) (a : Option Addr) (ns : List ByteArray) : Prop :=
  0 < ns.length → ∃ b off, a = some ⟨b, off, none⟩ ∧ b < B ∧ ∀ j x, ns[j]? = some x → x.size ≤ 2000000 ∧ w.cell? ⟨b, off + j, none⟩ = some (.string x)

/-- Four cells of a value. -/
def Four (w : World) (b off : Nat) (c0 c1 c2 c3 : Value) : Prop :=
  w.cell? ⟨b, off, none⟩ = some c0 ∧ w.cell? ⟨b, off + 1, none⟩ = some c1 ∧ w.cell? ⟨b, off + 2, none⟩ = some c2 ∧ w.cell? ⟨b, off + 3, none⟩ = some c3

/-- A slice of values whose elements read by R. -/
def Rows4 (w : World) (B : Nat) (R : JV → Value → Prop) (a : Option Addr) (ps : List JV) : Prop :=
  0 < ps.length → ∃ b off, a = some ⟨b, off, none⟩ ∧ b < B ∧ ∀ i x, ps[i]? = some x → ∃ c0 c1 c2 c3, Four w b (off + i * 4) c0 c1 c2 c3 ∧ R x (.agg #[c0, c1, c2, c3])

/-- A value that reads as x, at most n deep, below block B. -/
def Rd (w : World) (B : Nat) : Nat → JV → Value → Prop
  | 0, _, _ => False
  | n + 1, x, v => ∃ an cn ap cp, v = .agg #[.int .i64 x.k, .string x.s, .slice an x.ns.length cn, .slice ap x.ps.length cp] ∧
      (x.s.size ≤ 2000000 ∧ x.ns.length ≤ 2000000 ∧ x.ps.length ≤ 2000000 ∧ x.ns.length ≤ cn ∧ x.ps.length ≤ cp) ∧ Strs w B an x.ns ∧ Rows4 w B (Rd w B n) ap x.ps

theorem Strs.keep {w w' : World} {B : Nat} {a : Option Addr} {ns : List ByteArray} (h : Strs w B a ns) (hk : ∀ b o, b < B → w'.cell? ⟨b, o, none⟩ = w.cell? ⟨b, o, none⟩) : Strs w' B a ns := fun hp => by
  obtain ⟨b, off, e, hb, hc⟩ := h hp
  exact ⟨b, off, e, hb, fun j x hx => ⟨(hc j x hx).1, (hk b _ hb).trans (hc j x hx).2⟩⟩

theorem Strs.more {w : World} {B B' : Nat} {a : Option Addr} {ns : List ByteArray} (h : Strs w B a ns) (hB : B ≤ B') : Strs w B' a ns := fun hp => by
  obtain ⟨b, off, e, hb, hc⟩ := h hp
  exact ⟨b, off, e, by omega, hc⟩

theorem Four.keep {w w' : World} {b off : Nat} {c0 c1 c2 c3 : Value} (h : Four w b off c0 c1 c2 c3) (hk : ∀ o, w'.cell? ⟨b, o, none⟩ = w.cell? ⟨b, o, none⟩) : Four w' b off c0 c1 c2 c3 :=
  ⟨(hk _).trans h.1, (hk _).trans h.2.1, (hk _).trans h.2.2.1, (hk _).trans h.2.2.2⟩

theorem Rd.keep {w w' : World} {B : Nat} (hk : ∀ b o, b < B → w'.cell? ⟨b, o, none⟩ = w.cell? ⟨b, o, none⟩) : ∀ {n : Nat} {x : JV} {v : Value}, Rd w B n x v → Rd w' B n x v
  | 0, _, _, h => h
  | _ + 1, _, _, h => by
    obtain ⟨an, cn, ap, cp, e, hz, hs, hr⟩ := h
    refine ⟨an, cn, ap, cp, e, hz, hs.keep hk, fun hp => ?_⟩
    obtain ⟨b, off, e, hb, hc⟩ := hr hp
    refine ⟨b, off, e, hb, fun i x hx => ?_⟩
    obtain ⟨c0, c1, c2, c3, h4, hR⟩ := hc i x hx
    exact ⟨c0, c1, c2, c3, h4.keep fun o => hk b o hb, Rd.keep hk hR⟩

theorem Rd.more {w : World} {B B' : Nat} (hB : B ≤ B') : ∀ {n : Nat} {x : JV} {v : Value}, Rd w B n x v → Rd w B' n x v
  | 0, _, _, h => h
  | _ + 1, _, _, h => by
    obtain ⟨an, cn, ap, cp, e, hz, hs, hr⟩ := h
    refine ⟨an, cn, ap, cp, e, hz, hs.more hB, fun hp => ?_⟩
    obtain ⟨b, off, e, hb, hc⟩ := hr hp
    refine ⟨b, off, e, by omega, fun i x hx => ?_⟩
    obtain ⟨c0, c1, c2, c3, h4, hR⟩ := hc i x hx
    exact ⟨c0, c1, c2, c3, h4, Rd.more hB hR⟩

theorem Rd.below {w w' : World} {B : Nat} {n : Nat} {x : JV} {v : Value} (h : Rd w B n x v) (hb : Below B w w') : Rd w' B n x v :=
  h.keep fun _ _ h => hb.cell (p := ⟨_, _, none⟩) h

theorem Rows4.keep {w w' : World} {B n : Nat} {a : Option Addr} {ps : List JV} (h : Rows4 w B (Rd w B n) a ps) (hk : ∀ b o, b < B → w'.cell? ⟨b, o, none⟩ = w.cell? ⟨b, o, none⟩) : Rows4 w' B (Rd w' B n) a ps := fun hp => by
  obtain ⟨b, off, e, hb, hc⟩ := h hp
  refine ⟨b, off, e, hb, fun i x hx => ?_⟩
  obtain ⟨c0, c1, c2, c3, h4, hR⟩ := hc i x hx
  exact ⟨c0, c1, c2, c3, h4.keep fun o => hk b o hb, Rd.keep hk hR⟩

theorem Rows4.below {w w' : World} {B n : Nat} {a : Option Addr} {ps : List JV} (h : Rows4 w B (Rd w B n) a ps) (hb : Below B w w') : Rows4 w' B (Rd w' B n) a ps :=
  h.keep fun _ _ h => hb.cell (p := ⟨_, _, none⟩) h
theorem Strs.below {w w' : World} {B : Nat} {a : Option Addr} {ns : List ByteArray} (h : Strs w B a ns) (hb : Below B w w') : Strs w' B a ns :=
  h.keep fun _ _ h => hb.cell (p := ⟨_, _, none⟩) h

theorem Rd.up {w : World} {B : Nat} : ∀ {n : Nat} {x : JV} {v : Value}, Rd w B n x v → Rd w B (n + 1) x v
  | 0, _, _, h => h.elim
  | _ + 1, _, _, h => by
    obtain ⟨an, cn, ap, cp, e, hz, hs, hr⟩ := h
    refine ⟨an, cn, ap, cp, e, hz, hs, fun hp => ?_⟩
    obtain ⟨b, off, e, hb, hc⟩ := hr hp
    refine ⟨b, off, e, hb, fun i x hx => ?_⟩
    obtain ⟨c0, c1, c2, c3, h4, hR⟩ := hc i x hx
    exact ⟨c0, c1, c2, c3, h4, Rd.up hR⟩

/-- The element at a place that there is. -/
theorem Rows4.at_ {w : World} {B : Nat} {R : JV → Value → Prop} {a : Option Addr} {ps : List JV} (h : Rows4 w B R a ps) {i : Nat} (hi : i < ps.length) :
    ∃ b off c0 c1 c2 c3, a = some ⟨b, off, none⟩ ∧ b < B ∧ Four w b (off + i * 4) c0 c1 c2 c3 ∧ R ps[i] (.agg #[c0, c1, c2, c3]) := by
  obtain ⟨b, off, e, hb, hc⟩ := h (by omega)
  obtain ⟨c0, c1, c2, c3, h4, hR⟩ := hc i _ (List.getElem?_eq_getElem hi)
  exact ⟨b, off, c0, c1, c2, c3, e, hb, h4, hR⟩
theorem Strs.at_ {w : World} {B : Nat} {a : Option Addr} {ns : List ByteArray} (h : Strs w B a ns) {i : Nat} (hi : i < ns.length) :
    ∃ b off, a = some ⟨b, off, none⟩ ∧ b < B ∧ ns[i].size ≤ 2000000 ∧ w.cell? ⟨b, off + i, none⟩ = some (.string ns[i]) := by
  obtain ⟨b, off, e, hb, hc⟩ := h (by omega)
  exact ⟨b, off, e, hb, hc i _ (List.getElem?_eq_getElem hi)⟩

/-- A value's four cells, by its tree. -/
def agg4 (x : JV) (an : Option Addr) (cn : Nat) (ap : Option Addr) (cp : Nat) : Value := .agg #[.int .i64 x.k, .string x.s, .slice an x.ns.length cn, .slice ap x.ps.length cp]

theorem Rd.shape {w : World} {B n : Nat} {x : JV} {v : Value} (h : Rd w B n x v) : ∃ an cn ap cp, v = .agg #[.int .i64 x.k, .string x.s, .slice an x.ns.length cn, .slice ap x.ps.length cp] := by
  match n, h with
  | _ + 1, ⟨an, cn, ap, cp, e, _⟩ => exact ⟨an, cn, ap, cp, e⟩

/-- The element at a place that there is, its cells written out; in this world and in every later one. -/
theorem Rows4.elem {w : World} {B n : Nat} {a : Option Addr} {ps : List JV} (h : Rows4 w B (Rd w B n) a ps) {i : Nat} (hi : i < ps.length) {w' : World} (hb : Below B w w') :
    ∃ b off y an cn ap cp, Hid (ps[i] = y) ∧ a = some ⟨b, off, none⟩ ∧ b < B ∧ Rd w' B n y (.agg #[.int .i64 y.k, .string y.s, .slice an y.ns.length cn, .slice ap y.ps.length cp]) ∧
      w'.cell? ⟨b, off + i * 4, none⟩ = some (.int .i64 y.k) ∧ w'.cell? ⟨b, off + i * 4 + 1, none⟩ = some (.string y.s) ∧ w'.cell? ⟨b, off + i * 4 + 2, none⟩ = some (.slice an y.ns.length cn) ∧ w'.cell? ⟨b, off + i * 4 + 3, none⟩ = some (.slice ap y.ps.length cp) := by
  obtain ⟨b, off, c0, c1, c2, c3, e, hlt, h4, hR⟩ := (h.below hb).at_ hi
  obtain ⟨an, cn, ap, cp, ev⟩ := hR.shape
  injection ev with ev
  have ev' : [c0, c1, c2, c3] = [_, _, _, _] := congrArg Array.toList ev
  injection ev' with e0 ev'
  injection ev' with e1 ev'
  injection ev' with e2 ev'
  injection ev' with e3 _
  subst e0 e1 e2 e3
  exact ⟨b, off, ps[i], an, cn, ap, cp, Lib.hid rfl, e, hlt, hR, h4.1, h4.2.1, h4.2.2.1, h4.2.2.2⟩

end Go.Proofs.YtiblffipfldgjaaGreatDoor
