/-
  Values of package api as trees: what it is to read as one.
-/
import Derived.Test.YtibkncgfdhflgaaGreatDoorSmall
import Derived.Test.YtibkncgfdhflgaaGreatDoorQuote
import Derived.Maps.OwnSet
import Derived.Maps.AppendAt
import Derived.StringKeys
import Derived.Test.YtibkncgfdhflgaaGreatDoorNum
import Derived.Test.YtibkncgfdhflgaaGreatDoorQuote2
namespace Go.Proofs.YtibkncgfdhflgaaGreatDoor
open Go.RowKit

inductive JV where
  | mk (k : Int) (s : ByteArray) (ns : List ByteArray) (ps : List JV)

def JV.k : JV → Int
  | .mk k _ _ _ => k
def JV.s : JV → ByteArray
  | .mk _ s _ _ => s
def JV.ns : JV → List ByteArray
  | .mk _ _ ns _ => ns
def JV.ps : JV → List JV
  | .mk _ _ _ ps => ps

/-- A slice of strings that reads as ns, below block B. -/
def Strs (w : World) (B : Nat) (a : Option Addr) (ns : List ByteArray) : Prop :=
  0 < ns.length → ∃ b off, a = some ⟨b, off, none⟩ ∧ b < B ∧ ∀ j x, ns[j]? = some x → x.size ≤ 2000000 ∧ w.cell? ⟨b, off + j, none⟩ = some (.string x)

/-- Four cells of a value. -/
def Four (w : World) (b off : Nat) (c0 c1 c2 c3 : Value) : Prop :=
  w.cell? ⟨b, off, none⟩ = some c0 ∧ w.cell? ⟨b, off + 1, none⟩ = some c1 ∧ w.cell? ⟨b, off + 2, none⟩ = some c2 ∧ w.cell? ⟨b, off + 3, none⟩ = some c3

/-- A slice of values whose elements read by R. -/
def Rows4 (w : World) (B : Nat) (R : JV → Value → Prop) (a : Option Addr) (ps : List JV) : Prop :=
  0 < ps.length → ∃ b off, a = some ⟨b, off, none⟩ ∧ b < B ∧ ∀ i x, ps[i]? = some x → ∃ c0 c1 c2 c3, Four w b (off + i * 4) c0 c1 c2 c3 ∧ R x (.agg #[c0, c1, c2, c3])

/-- A value that reads as x, at most n deep, below block B. -/
def Rd (w : World) (B : Nat) : Nat → JV → Value → Prop
  | 0, _, _ => False
  | n + 1, x, v => ∃ an cn ap cp, v = .agg #[.int .i64 x.k, .string x.s, .slice an x.ns.length cn, .slice ap x.ps.length cp] ∧
      (x.s.size ≤ 2000000 ∧ x.ns.length ≤ 2000000 ∧ x.ps.length ≤ 2000000 ∧ x.ns.length ≤ cn ∧ x.ps.length ≤ cp) ∧ Strs w B an x.ns ∧ Rows4 w B (Rd w B n) ap x.ps

theorem Strs.keep {w w' : World} {B : Nat} {a : Option Addr} {ns : List ByteArray} (h : Strs w B a ns) (hk : ∀ b o, b < B → w'.cell? ⟨b, o, none⟩ = w.cell? ⟨b, o, none⟩) : Strs w' B a ns := fun hp => by
  obtain ⟨b, off, e, hb, hc⟩ := h hp
  exact ⟨b, off, e, hb, fun j x hx => ⟨(hc j x hx).1, (hk b _ hb).trans (hc j x hx).2⟩⟩

theorem Strs.more {w : World} {B B' : Nat} {a : Option Addr} {ns : List ByteArray} (h : Strs w B a ns) (hB : B ≤ B') : Strs w B' a ns := fun hp => by
  obtain ⟨b, off, e, hb, hc⟩ := h hp
  exact ⟨b, off, e, by omega, hc⟩

theorem Four.keep {w w' : World} {b off : Nat} {c0 c1 c2 c3 : Value} (h : Four w b off c0 c1 c2 c3) (hk : ∀ o, w'.cell? ⟨b, o, none⟩ = w.cell? ⟨b, o, none⟩) : Four w' b off c0 c1 c2 c3 :=
  ⟨(hk _).trans h.1, (hk _).trans h.2.1, (hk _).trans h.2.2.1, (hk _).trans h.2.2.2⟩

theorem Rd.keep {w w' : World} {B : Nat} (hk : ∀ b o, b < B → w'.cell? ⟨b, o, none⟩ = w.cell? ⟨b, o, none⟩) : ∀ {n : Nat} {x : JV} {v : Value}, Rd w B n x v → Rd w' B n x v
  | 0, _, _, h => h
  | _ + 1, _, _, h => by
    obtain ⟨an, cn, ap, cp, e, hz, hs, hr⟩ := h
    refine ⟨an, cn, ap, cp, e, hz, hs.keep hk, fun hp => ?_⟩
    obtain ⟨b, off, e, hb, hc⟩ := hr hp
    refine ⟨b, off, e, hb, fun i x hx => ?_⟩
    obtain ⟨c0, c1, c2, c3, h4, hR⟩ := hc i x hx
    exact ⟨c0, c1, c2, c3, h4.keep fun o => hk b o hb, Rd.keep hk hR⟩

theorem Rd.more {w : World} {B B' : Nat} (hB : B ≤ B') : ∀ {n : Nat} {x : JV} {v : Value}, Rd w B n x v → Rd w B' n x v
  | 0, _, _, h => h
  | _ + 1, _, _, h => by
    obtain ⟨an, cn, ap, cp, e, hz, hs, hr⟩ := h
    refine ⟨an, cn, ap, cp, e, hz, hs.more hB, fun hp => ?_⟩
    obtain ⟨b, off, e, hb, hc⟩ := hr hp
    refine ⟨b, off, e, by omega, fun i x hx => ?_⟩
    obtain ⟨c0, c1, c2, c3, h4, hR⟩ := hc i x hx
    exact ⟨c0, c1, c2, c3, h4, Rd.more hB hR⟩

theorem Rd.below {w w' : World} {B : Nat} {n : Nat} {x : JV} {v : Value} (h : Rd w B n x v) (hb : Below B w w') : Rd w' B n x v :=
  h.keep fun _ _ h => hb.cell (p := ⟨_, _, none⟩) h

theorem Rows4.keep {w w' : World} {B n : Nat} {a : Option Addr} {ps : List JV} (h : Rows4 w B (Rd w B n) a ps) (hk : ∀ b o, b < B → w'.cell? ⟨b, o, none⟩ = w.cell? ⟨b, o, none⟩) : Rows4 w' B (Rd w' B n) a ps := fun hp => by
  obtain ⟨b, off, e, hb, hc⟩ := h hp
  refine ⟨b, off, e, hb, fun i x hx => ?_⟩
  obtain ⟨c0, c1, c2, c3, h4, hR⟩ := hc i x hx
  exact ⟨c0, c1, c2, c3, h4.keep fun o => hk b o hb, Rd.keep hk hR⟩

theorem Rows4.below {w w' : World} {B n : Nat} {a : Option Addr} {ps : List JV} (h : Rows4 w B (Rd w B n) a ps) (hb : Below B w w') : Rows4 w' B (Rd w' B n) a ps :=
  h.keep fun _ _ h => hb.cell (p := ⟨_, _, none⟩) h
theorem Strs.below {w w' : World} {B : Nat} {a : Option Addr} {ns : List ByteArray} (h : Strs w B a ns) (hb : Below B w w') : Strs w' B a ns :=
  h.keep fun _ _ h => hb.cell (p := ⟨_, _, none⟩) h

theorem Rd.up {w : World} {B : Nat} : ∀ {n : Nat} {x : JV} {v : Value}, Rd w B n x v → Rd w B (n + 1) x v
  | 0, _, _, h => h.elim
  | _ + 1, _, _, h => by
    obtain ⟨an, cn, ap, cp, e, hz, hs, hr⟩ := h
    refine ⟨an, cn, ap, cp, e, hz, hs, fun hp => ?_⟩
    obtain ⟨b, off, e, hb, hc⟩ := hr hp
    refine ⟨b, off, e, hb, fun i x hx => ?_⟩
    obtain ⟨c0, c1, c2, c3, h4, hR⟩ := hc i x hx
    exact ⟨c0, c1, c2, c3, h4, Rd.up hR⟩

/-- The element at a place that there is. -/
theorem Rows4.at_ {w : World} {B : Nat} {R : JV → Value → Prop} {a : Option Addr} {ps : List JV} (h : Rows4 w B R a ps) {i : Nat} (hi : i < ps.length) :
    ∃ b off c0 c1 c2 c3, a = some ⟨b, off, none⟩ ∧ b < B ∧ Four w b (off + i * 4) c0 c1 c2 c3 ∧ R ps[i] (.agg #[c0, c1, c2, c3]) := by
  obtain ⟨b, off, e, hb, hc⟩ := h (by omega)
  obtain ⟨c0, c1, c2, c3, h4, hR⟩ := hc i _ (List.getElem?_eq_getElem hi)
  exact ⟨b, off, c0, c1, c2, c3, e, hb, h4, hR⟩
theorem Strs.at_ {w : World} {B : Nat} {a : Option Addr} {ns : List ByteArray} (h : Strs w B a ns) {i : Nat} (hi : i < ns.length) :
    ∃ b off, a = some ⟨b, off, none⟩ ∧ b < B ∧ ns[i].size ≤ 2000000 ∧ w.cell? ⟨b, off + i, none⟩ = some (.string ns[i]) := by
  obtain ⟨b, off, e, hb, hc⟩ := h (by omega)
  exact ⟨b, off, e, hb, hc i _ (List.getElem?_eq_getElem hi)⟩

/-- A value's four cells, by its tree. -/
def agg4 (x : JV) (an : Option Addr) (cn : Nat) (ap : Option Addr) (cp : Nat) : Value := .agg #[.int .i64 x.k, .string x.s, .slice an x.ns.length cn, .slice ap x.ps.length cp]

theorem Rd.shape {w : World} {B n : Nat} {x : JV} {v : Value} (h : Rd w B n x v) : ∃ an cn ap cp, v = .agg #[.int .i64 x.k, .string x.s, .slice an x.ns.length cn, .slice ap x.ps.length cp] := by
  match n, h with
  | _ + 1, ⟨an, cn, ap, cp, e, _⟩ => exact ⟨an, cn, ap, cp, e⟩

/-- The element at a place that there is, its cells written out; in this world and in every later one. -/
theorem Rows4.elem {w : World} {B n : Nat} {a : Option Addr} {ps : List JV} (h : Rows4 w B (Rd w B n) a ps) {i : Nat} (hi : i < ps.length) {w' : World} (hb : Below B w w') :
    ∃ b off y an cn ap cp, Hid (ps[i] = y) ∧ a = some ⟨b, off, none⟩ ∧ b < B ∧ Rd w' B n y (.agg #[.int .i64 y.k, .string y.s, .slice an y.ns.length cn, .slice ap y.ps.length cp]) ∧
      w'.cell? ⟨b, off + i * 4, none⟩ = some (.int .i64 y.k) ∧ w'.cell? ⟨b, off + i * 4 + 1, none⟩ = some (.string y.s) ∧ w'.cell? ⟨b, off + i * 4 + 2, none⟩ = some (.slice an y.ns.length cn) ∧ w'.cell? ⟨b, off + i * 4 + 3, none⟩ = some (.slice ap y.ps.length cp) := by
  obtain ⟨b, off, c0, c1, c2, c3, e, hlt, h4, hR⟩ := (h.below hb).at_ hi
  obtain ⟨an, cn, ap, cp, ev⟩ := hR.shape
  injection ev with ev
  have ev' : [c0, c1, c2, c3] = [_, _, _, _] := congrArg Array.toList ev
  injection ev' with e0 ev'
  injection ev' with e1 ev'
  injection ev' with e2 ev'
  injection ev' with e3 _
  subst e0 e1 e2 e3
  exact ⟨b, off, ps[i], an, cn, ap, cp, Lib.hid rfl, e, hlt, hR, h4.1, h4.2.1, h4.2.2.1, h4.2.2.2⟩

end Go.Proofs.YtibkncgfdhflgaaGreatDoor

/-
  What jval.checkNames answers: each is right UTF-8, none stands twice.
-/
namespace Go.Proofs.YtibkncgfdhflgaaGreatDoor
open Go.RowKit Go.Maps Go.WideMaps

def vbl (x : ByteArray) : List UInt8 := x.data.toList
/-- Names that stand behind others. -/
def nmGo : List (List UInt8) → List (List UInt8) → Bool
  | _, [] => true
  | seen, x :: r => !(decide (x ∈ seen)) && Lib.validD x && nmGo (seen ++ [x]) r
def nmOk (ns : List ByteArray) : Bool := nmGo [] (ns.map vbl)

/-- The set that holds the first k. -/
def Sn (ns : List ByteArray) (k : Nat) : DataW Unit := setOf (.agg []) (((ns.map vbl).take k).map Lit.string)

theorem vbl_inj {a b : ByteArray} (h : vbl a = vbl b) : a = b := by
  cases a with
  | mk a => cases b with
    | mk b => exact congrArg ByteArray.mk (Array.toList_inj.1 h)

theorem lit_same (a b : List UInt8) : (Lit.string a).sameKey (.string b) = decide (b = a) := by
  rw [Bool.eq_iff_iff, WideAt.sameKey_iff (by trivial), decide_eq_true_eq]
  constructor
  · intro h
    injection h with h
    exact h.symm
  · intro h
    subst h
    rfl

theorem has_Sn (ns : List ByteArray) (k : Nat) (x : List UInt8) : Maps.has (Sn ns k) (.string x) = decide (x ∈ (ns.map vbl).take k) := by
  unfold Sn
  rw [has_setOf _ _ _ (fun y hy => by obtain ⟨_, _, rfl⟩ := List.mem_map.1 hy; trivial), List.any_map]
  generalize (ns.map vbl).take k = l
  induction l with
  | nil => simp
  | cons a r ih =>
    rw [List.any_cons, ih, Function.comp_apply, lit_same a x, Bool.eq_iff_iff]
    simp

theorem Sn_next (ns : List ByteArray) (k : Nat) (h : k < ns.length) : Sn ns (k + 1) = (Sn ns k).put (.string (vbl ns[k])) (.agg []) := by
  unfold Sn
  rw [List.take_succ_eq_append_getElem (by simpa using h), List.map_append, List.getElem_map]
  exact setOf_snoc _ _ _

theorem nmGo_step (ns : List ByteArray) (k : Nat) (h : k < ns.length) : nmGo ((ns.map vbl).take k) ((ns.map vbl).drop k) = (!(decide (vbl ns[k] ∈ (ns.map vbl).take k)) && Lib.validD (vbl ns[k]) && nmGo ((ns.map vbl).take (k + 1)) ((ns.map vbl).drop (k + 1))) := by
  rw [List.drop_eq_getElem_cons (by simpa using h), List.take_succ_eq_append_getElem (by simpa using h), List.getElem_map]
  rfl

theorem lawS : Keyed Tryz.prog 9 := string_keyed Tryz.underlying9
theorem zeroU (w : World) : (zeroValue 128).run Tryz.prog w = .ok (.agg #[]) w := by kernel_rfl

theorem ownsMap_below {H : Type} {P : Program} {k : TypeId} {R : Value → Option (DataW H × List MemPlace)} {b n B : Nat} {D : DataW H} {w w' : World} (h : w.ownsMap P k R b n D) (hb : Below B w w') (hlt : b < B) : w'.ownsMap P k R b n D := by
  obtain ⟨es, clock, e, r⟩ := h
  exact ⟨es, clock, (hb.block b hlt).trans e, r⟩

def NamesRel (ns : List ByteArray) (w : World) (i : Value) (wr : World) : Prop :=
  ∃ k : Nat, k ≤ ns.length ∧ i = .int .i64 k ∧ wr.ownsMap Tryz.prog 9 unitElem w.heap.size k (Sn ns k) ∧ Below w.heap.size w wr ∧ nmOk ns = nmGo ((ns.map vbl).take k) ((ns.map vbl).drop k)

end Go.Proofs.YtibkncgfdhflgaaGreatDoor

/-
  What jval.checkLeaf, checkSelf, checkAt and Check answer.
-/
namespace Go.Proofs.YtibkncgfdhflgaaGreatDoor
open Go.RowKit

def boolB (l : List UInt8) : Bool := l == [116, 114, 117, 101] || l == [102, 97, 108, 115, 101]
def leafB (k : Int) (l : List UInt8) : Bool :=
  if k = 1 then l.isEmpty else if k = 2 then boolB l else if k = 3 then numOk l && numWhole l else if k = 4 then numOk l && !numWhole l else if k = 5 then Lib.validD l else false

theorem empty_eq (s : ByteArray) : (s.toList == []) = (vbl s).isEmpty := by
  rw [Lib.toList_data]; unfold vbl; cases s.data.toList <;> rfl
theorem empty_eq' (s : ByteArray) : s.toList.isEmpty = (vbl s).isEmpty := by
  rw [Lib.toList_data]; rfl
theorem boolB_true {s : ByteArray} (h : s.toList = [116, 114, 117, 101]) : true = boolB (vbl s) := by
  rw [Lib.toList_data] at h; unfold boolB vbl; rw [h]; rfl
theorem boolB_eq (s : ByteArray) : (s.toList == [116, 114, 117, 101] || s.toList == [102, 97, 108, 115, 101]) = boolB (vbl s) := by
  rw [Lib.toList_data]; rfl

def BoolBelow (b : Bool) (w : World) (e : Ending) (w' : World) : Prop := e = .returned (.bool b) ∧ Below w.heap.size w w'
theorem boolBelow_of {a b : Bool} {w w' : World} (h : a = b) (hb : Below w.heap.size w w') : BoolBelow b w (.returned (.bool a)) w' := by subst h; exact ⟨rfl, hb⟩

theorem leaf_other {k : Int} (h1 : k ≠ 1) (h2 : k ≠ 2) (h3 : k ≠ 3) (h4 : k ≠ 4) (l : List UInt8) : leafB k l = if k = 5 then Lib.validD l else false := by
  unfold leafB; rw [if_neg h1, if_neg h2, if_neg h3, if_neg h4]

theorem str_cases (s : ByteArray) : s = ⟨#[]⟩ ∨ ((s.toList == []) = false ∧ Hid ((vbl s).isEmpty = false)) := by
  cases hs : vbl s with
  | nil => exact .inl (vbl_inj (b := ⟨#[]⟩) hs)
  | cons b r => exact .inr ⟨by rw [Lib.toList_data]; show (vbl s == []) = false; rw [hs]; rfl, Lib.hid rfl⟩
theorem len_zero {α : Type} (l : List α) : ((l.length : Int) == 0) = l.isEmpty := by
  cases l with
  | nil => rfl
  | cons a r => simp; omega

/-- A value alone, not its parts. -/
def selfB (x : JV) : Bool :=
  if x.k = 7 then (vbl x.s).isEmpty && x.ns.isEmpty else if x.k = 8 then (vbl x.s).isEmpty && decide (x.ns.length = x.ps.length) && nmOk x.ns else x.ns.isEmpty && x.ps.isEmpty && leafB x.k (vbl x.s)

theorem self_list {x : JV} (h : x.k = 7) : selfB x = ((vbl x.s).isEmpty && x.ns.isEmpty) := by unfold selfB; rw [if_pos h]
theorem self_obj {x : JV} (h : x.k = 8) : selfB x = ((vbl x.s).isEmpty && decide (x.ns.length = x.ps.length) && nmOk x.ns) := by unfold selfB; rw [if_neg (by omega), if_pos h]
theorem self_leaf {x : JV} (h : x.k ≠ 7) (h' : x.k ≠ 8) : selfB x = (x.ns.isEmpty && x.ps.isEmpty && leafB x.k (vbl x.s)) := by unfold selfB; rw [if_neg h, if_neg h']

/-- A value of JSON, at most so deep. -/
def chkAt : Nat → JV → Bool
  | 0, _ => false
  | m + 1, x => selfB x && x.ps.all (chkAt m)

def ChkRel (m : Nat) (ps : List JV) (w : World) (i : Value) (wr : World) : Prop :=
  ∃ k : Nat, k ≤ ps.length ∧ i = .int .i64 k ∧ Below w.heap.size w wr ∧ ps.all (chkAt m) = (ps.drop k).all (chkAt m)

theorem all_step {α : Type} (f : α → Bool) (l : List α) (k : Nat) (h : k < l.length) : (l.drop k).all f = (f l[k] && (l.drop (k + 1)).all f) := by
  rw [List.drop_eq_getElem_cons h, List.all_cons]

end Go.Proofs.YtibkncgfdhflgaaGreatDoor

/-
  What jval.writeValue, writeParts and Text write.
-/
namespace Go.Proofs.YtibkncgfdhflgaaGreatDoor
open Go.RowKit
set_option linter.unusedSimpArgs false

theorem only_below {w w' : World} (h : Below w.heap.size w w') (row : Option Nat) : w.grownBy w' row := ⟨h.os, h.tape, h.output, h.size, fun i hi _ => h.block i hi⟩

theorem BldAt.below {T : TypeId} {B b : Nat} {p : Value} {rest bs : List Value} {w w' : World} (h : BldAt T B b p rest bs w) (hb : Below w.heap.size w w') : BldAt T B b p rest bs w' := by
  have hlt := h.lt
  obtain ⟨hB, v, hbk, hown, hne⟩ := h
  exact ⟨hB, v, (hb.block b hlt).trans hbk, hown.kept (only_below hb none) (by cases hv : v.ownBlock <;> simp), hne⟩
theorem Bld.below {T : TypeId} {B b : Nat} {rest bs : List Value} {w w' : World} (h : Bld T B b rest bs w) (hb : Below w.heap.size w w') : Bld T B b rest bs w' :=
  h.elim (fun x => .inl (x.below hb)) (fun x => .inr (x.below hb))
theorem kept_below {e : TypeId} {b : Option Nat} {w w' : World} (hb : Below w.heap.size w w') : Lib.OthersKept e b w w' := fun k o hk _ _ => by
  have hlt : k < w.heap.size := (Array.getElem?_eq_some_iff.1 hk).1
  exact (hb.block k hlt).trans hk

def nullL : List UInt8 := [110, 117, 108, 108]
/-- Parts, with names or without. -/
def pts (f : JV → List UInt8) (ob : Bool) : Bool → List ByteArray → List JV → List UInt8
  | _, _, [] => []
  | fst, ns, p :: r => (if fst then [] else [44]) ++ ((if ob then quoteB (vbl (ns.headD ⟨#[]⟩)) ++ [58] else []) ++ (f p ++ pts f ob false ns.tail r))
/-- A value's text. -/
def txt : Nat → JV → List UInt8
  | 0, _ => []
  | m + 1, x => if x.k = 1 then nullL else if x.k = 5 then quoteB (vbl x.s) else if x.k = 7 then [91] ++ (pts (txt m) false true x.ns x.ps ++ [93]) else if x.k = 8 then [123] ++ (pts (txt m) true true x.ns x.ps ++ [125]) else vbl x.s

def Wrote (B b : Nat) (l : List UInt8) (w : World) (e : Ending) (w' : World) : Prop :=
  e = .returned (.tuple #[]) ∧ Bld 137 B b [] (Lib.byteCells l) w' ∧ Below B w w' ∧ Lib.OthersKept 5 (some b) w w'

theorem byte_app (a b : List UInt8) : Lib.byteCells (a ++ b) = Lib.byteCells a ++ Lib.byteCells b := by simp [Lib.byteCells]
theorem byte_str (s : ByteArray) : Lib.strCells s = Lib.byteCells (vbl s) := by simp [Lib.strCells, Lib.byteCells, vbl]
theorem byte_one (c : UInt8) : [Value.int .u8 c.toNat] = Lib.byteCells [c] := by simp [Lib.byteCells]

/-- The builder's two writers, in bytes. -/
theorem wByte {B b : Nat} {l : List UInt8} {w : World} (c : UInt8) (z : Int) (hz : (c.toNat : Int) = z) (h : Bld 137 B b [] (Lib.byteCells l) w) (hlen : l.length + 1 ≤ 140737488355328) (hBw : B ≤ w.heap.size) :
    Calls Tryz.prog 115 #[.pointer (some ⟨b, 0, none⟩), .int .u8 z] w fun e w' => e = .returned .nilIface ∧ (Bld 137 B b [] (Lib.byteCells (l ++ [c])) w' ∧ Below B w w' ∧ Lib.OthersKept 5 (some b) w w') := by
  subst hz
  refine (writeByte_any c.toNat Fit.plain h (by rw [Lib.byteCells_length]; exact hlen) hBw).mono ?_
  rintro e w' ⟨he, h1, h2, h3⟩
  exact ⟨he, by rw [byte_app, ← byte_one]; exact h1, h2, h3⟩
theorem wStr {B b : Nat} {l : List UInt8} {w : World} (s : ByteArray) (h : Bld 137 B b [] (Lib.byteCells l) w) (hlen : l.length + (vbl s).length ≤ 140737488355328) (hBw : B ≤ w.heap.size) :
    Calls Tryz.prog 114 #[.pointer (some ⟨b, 0, none⟩), .string s] w fun e w' => e = .returned (.tuple #[.int .i64 s.size, .nilIface]) ∧ (Bld 137 B b [] (Lib.byteCells (l ++ vbl s)) w' ∧ Below B w w' ∧ Lib.OthersKept 5 (some b) w w') := by
  refine (writeString_any s Fit.plain h (by rw [Lib.byteCells_length]; exact hlen) hBw).mono ?_
  rintro e w' ⟨he, h1, h2, h3⟩
  exact ⟨he, by rw [byte_app, ← byte_str]; exact h1, h2, h3⟩

theorem pts_step (f : JV → List UInt8) (ob : Bool) (ns : List ByteArray) (ps : List JV) (k : Nat) (h : k < ps.length) :
    pts f ob (k == 0) (ns.drop k) (ps.drop k) = (if k == 0 then [] else [44]) ++ ((if ob then quoteB (vbl ((ns.drop k).headD ⟨#[]⟩)) ++ [58] else []) ++ (f ps[k] ++ pts f ob false (ns.drop (k + 1)) (ps.drop (k + 1)))) := by
  rw [List.drop_eq_getElem_cons h]
  conv => lhs; unfold pts
  rw [List.tail_drop]

def PartsRel (B b kb : Nat) (T : List UInt8) (f : JV → List UInt8) (ob : Bool) (x : JV) (an : Option Addr) (cn : Nat) (ap : Option Addr) (cp : Nat) (bs : List UInt8) (w : World) (i : Value) (wr : World) : Prop :=
  ∃ (k : Nat) (acc : List UInt8), k ≤ x.ps.length ∧ i = .int .i64 k ∧ Bld 137 B b [] (Lib.byteCells (bs ++ acc)) wr ∧ Below B w wr ∧ Lib.OthersKept 5 (some b) w wr ∧
    wr.heap[kb]? = some (.cells #[.int .i64 x.k, .string x.s, .slice an x.ns.length cn, .slice ap x.ps.length cp] 45 (0, 0)) ∧ T = acc ++ pts f ob (k == 0) (x.ns.drop k) (x.ps.drop k)

/-- The state inside a round: the builder, the value's box, the element's box. -/
structure StT (B b kb ke : Nat) (bx ex : Array Value) (l : List UInt8) (wr W : World) : Prop where
  bld : Bld 137 B b [] (Lib.byteCells l) W
  bel : Below B wr W
  kep : Lib.OthersKept 5 (some b) wr W
  box : W.heap[kb]? = some (.cells bx 45 (0, 0))
  el : W.heap[ke]? = some (.cells ex 45 (0, 0))
  le : B ≤ W.heap.size

theorem cells_ne (bx : Array Value) : ∀ c fz, (Obj.cells bx 45 (0, 0)) ≠ .cells c 5 fz := by
  intro c fz h
  injection h with _ h
  exact absurd h (by decide)

theorem StT.write {B b kb ke : Nat} {bx ex : Array Value} {l l' : List UInt8} {wr W W' : World} (h : StT B b kb ke bx ex l wr W) (hkb : kb ≠ b) (hke : ke ≠ b)
    (h1 : Bld 137 B b [] (Lib.byteCells l') W') (h2 : Below B W W') (h3 : Lib.OthersKept 5 (some b) W W') : StT B b kb ke bx ex l' wr W' :=
  ⟨h1, h.bel.trans h2, h.kep.trans h3, h3 kb _ h.box (by simpa using hkb) (cells_ne bx), h3 ke _ h.el (by simpa using hke) (cells_ne ex), Nat.le_trans h.le h2.size⟩
theorem StT.below {B b kb ke : Nat} {bx ex : Array Value} {l : List UInt8} {wr W W' : World} (h : StT B b kb ke bx ex l wr W) (hb : Below W.heap.size W W') : StT B b kb ke bx ex l wr W' :=
  ⟨h.bld.below hb, h.bel.trans (hb.mono h.le), h.kep.trans (kept_below hb), (hb.block kb (Array.getElem?_eq_some_iff.1 h.box).1).trans h.box, (hb.block ke (Array.getElem?_eq_some_iff.1 h.el).1).trans h.el, Nat.le_trans h.le hb.size⟩
theorem StT.bcell {B b kb ke : Nat} {bx ex : Array Value} {l : List UInt8} {wr W : World} (h : StT B b kb ke bx ex l wr W) (j : Nat) : W.cell? ⟨kb, j, none⟩ = bx[j]? := Lib.cell_of_heap h.box j
theorem StT.ecell {B b kb ke : Nat} {bx ex : Array Value} {l : List UInt8} {wr W : World} (h : StT B b kb ke bx ex l wr W) (j : Nat) : W.cell? ⟨ke, j, none⟩ = ex[j]? := Lib.cell_of_heap h.el j

theorem head_drop (ns : List ByteArray) (k : Nat) (h : k < ns.length) : (ns.drop k).headD ⟨#[]⟩ = ns[k] := by
  rw [List.drop_eq_getElem_cons h]; rfl

end Go.Proofs.YtibkncgfdhflgaaGreatDoor

/-
  What jval.writeValue and jval.Text write.
-/
namespace Go.Proofs.YtibkncgfdhflgaaGreatDoor
open Go.RowKit

/-- The builder and the value's box. -/
structure Sb (B b kb : Nat) (bx : Array Value) (l : List UInt8) (w W : World) : Prop where
  bld : Bld 137 B b [] (Lib.byteCells l) W
  bel : Below B w W
  kep : Lib.OthersKept 5 (some b) w W
  box : W.heap[kb]? = some (.cells bx 45 (0, 0))
  le : B ≤ W.heap.size
theorem Sb.write {B b kb : Nat} {bx : Array Value} {l l' : List UInt8} {w W W' : World} (h : Sb B b kb bx l w W) (hkb : kb ≠ b)
    (h1 : Bld 137 B b [] (Lib.byteCells l') W') (h2 : Below B W W') (h3 : Lib.OthersKept 5 (some b) W W') : Sb B b kb bx l' w W' :=
  ⟨h1, h.bel.trans h2, h.kep.trans h3, h3 kb _ h.box (by simpa using hkb) (cells_ne bx), Nat.le_trans h.le h2.size⟩
theorem Sb.below {B b kb : Nat} {bx : Array Value} {l : List UInt8} {w W W' : World} (h : Sb B b kb bx l w W) (hb : Below W.heap.size W W') : Sb B b kb bx l w W' :=
  ⟨h.bld.below hb, h.bel.trans (hb.mono h.le), h.kep.trans (kept_below hb), (hb.block kb (Array.getElem?_eq_some_iff.1 h.box).1).trans h.box, Nat.le_trans h.le hb.size⟩
theorem Sb.cell {B b kb : Nat} {bx : Array Value} {l : List UInt8} {w W : World} (h : Sb B b kb bx l w W) (j : Nat) : W.cell? ⟨kb, j, none⟩ = bx[j]? := Lib.cell_of_heap h.box j
theorem Sb.done {B b kb : Nat} {bx : Array Value} {l l' : List UInt8} {w W : World} (h : Sb B b kb bx l w W) (e : l = l') : Wrote B b l' w (.returned (.tuple #[])) W := by
  subst e; exact ⟨rfl, h.bld, h.bel, h.kep⟩

theorem txt_leaf {m : Nat} {x : JV} (h1 : x.k ≠ 1) (h5 : x.k ≠ 5) (h7 : x.k ≠ 7) (h8 : x.k ≠ 8) : txt (m + 1) x = vbl x.s := by
  unfold txt; rw [if_neg h1, if_neg h5, if_neg h7, if_neg h8]
theorem txt_null {m : Nat} {x : JV} (h1 : x.k = 1) : txt (m + 1) x = nullL := by unfold txt; rw [if_pos h1]
theorem txt_str {m : Nat} {x : JV} (h1 : x.k = 5) : txt (m + 1) x = quoteB (vbl x.s) := by unfold txt; rw [if_neg (by omega), if_pos h1]
theorem txt_list {m : Nat} {x : JV} (h1 : x.k = 7) : txt (m + 1) x = [91] ++ (pts (txt m) false true x.ns x.ps ++ [93]) := by unfold txt; rw [if_neg (by omega), if_neg (by omega), if_pos h1]
theorem txt_obj {m : Nat} {x : JV} (h1 : x.k = 8) : txt (m + 1) x = [123] ++ (pts (txt m) true true x.ns x.ps ++ [125]) := by unfold txt; rw [if_neg (by omega), if_neg (by omega), if_neg (by omega), if_pos h1]

/-- Text: empty, if it is no value of JSON. -/
def textB (x : JV) : List UInt8 := if chkAt 12 x then txt 12 x else []

end Go.Proofs.YtibkncgfdhflgaaGreatDoor
