/-
  What jval.writeValue, writeParts and Text write.
-/
import Derived.Test.YtiblffipfldgjaaGreatDoorChk
import Derived.Test.YtiblffipfldgjaaGreatDoorQuote2
namespace Go.Proofs.YtiblffipfldgjaaGreatDoor
open Go.RowKit
set_option linter.unusedSimpArgs false

theorem only_below {w w' : World} (h : Below w.heap.size w w') (row : Option Nat) : w.grownBy w' row := ⟨h.os, h.tape, h.output, h.size, fun i hi _ => h.block i hi⟩

theorem BldAt.below {T : TypeId} {B b : Nat} {p : Value} {rest bs : List Value} {w w' : World} (h : BldAt T B b p rest bs w) (hb : Below w.heap.size w w') : BldAt T B b p rest bs w' := by
  have hlt := h.lt
  obtain ⟨hB, v, hbk, hown, hne⟩ := h
  exact ⟨hB, v, (hb.block b hlt).trans hbk, hown.kept (only_below hb none) (by cases hv : v.ownBlock <;> simp), hne⟩
theorem Bld.below {T : TypeId} {B b : Nat} {rest bs : List Value} {w w' : World} (h : Bld T B b rest bs w) (hb : Below w.heap.size w w') : Bld T B b rest bs w' :=
  h.elim (fun x => .inl (x.below hb)) (fun x => .inr (x.below hb))
theorem kept_below {e : TypeId} {b : Option Nat} {w w' : World} (hb : Below w.heap.size w w') : Lib.OthersKept e b w w' := fun k o hk _ _ => by
  have hlt : k < w.heap.size := (Array.getElem?_eq_some_iff.1 hk).1
  exact (hb.block k hlt).trans hk

def nullL : List UInt8 := [110, 117, 108, 108]
/-- Parts, with names or without. -/
def pts (f : JV → List UInt8) (ob : Bool) : Bool → List ByteArray → List JV → List UInt8
  | _, _, [] => []
  | fst, ns, p :: r => (if fst then [] else [44]) ++ ((if ob then quoteB (vbl (ns.headD ⟨#[]⟩)) ++ [58] else []) ++ (f p ++ pts f ob false ns.tail r))
/-- A value's text. -/
def txt : Nat → JV → List UInt8
  | 0, _ => []
  | m + 1, x => if x.k = 1 then nullL else if x.k = 5 then quoteB (vbl x.s) else if x.k = 7 then [91] ++ (pts (txt m) false true x.ns x.ps ++ [93]) else if x.k = 8 then [123] ++ (pts (txt m) true true x.ns x.ps ++ [125]) else vbl x.s

def Wrote (B b : Nat) (l : List UInt8) (w : World) (e : Ending) (w' : World) : Prop :=
  e = .returned (.tuple #[]) ∧ Bld 49 B b [] (Lib.byteCells l) w' ∧ Below B w w' ∧ Lib.OthersKept 5 (some b) w w'

theorem byte_app (a b : List UInt8) : Lib.byteCells (a ++ b) = Lib.byteCells a ++ Lib.byteCells b := by simp [Lib.byteCells]
theorem byte_str (s : ByteArray) : Lib.strCells s = Lib.byteCells (vbl s) := by simp [Lib.strCells, Lib.byteCells, vbl]
theorem byte_one (c : UInt8) : [Value.int .u8 c.toNat] = Lib.byteCells [c] := by simp [Lib.byteCells]

/-- The builder's two writers, in bytes. -/
theorem wByte {B b : Nat} {l : List UInt8} {w : World} (c : UInt8) (z : Int) (hz : (c.toNat : Int) = z) (h : Bld 49 B b [] (Lib.byteCells l) w) (hlen : l.length + 1 ≤ 140737488355328) (hBw : B ≤ w.heap.size) :
    Calls Tryz.prog 65 #[.pointer (some ⟨b, 0, none⟩), .int .u8 z] w fun e w' => e = .returned .nilIface ∧ (Bld 49 B b [] (Lib.byteCells (l ++ [c])) w' ∧ Below B w w' ∧ Lib.OthersKept 5 (some b) w w') := by
  subst hz
  refine (writeByte_any c.toNat Fit.plain h (by rw [Lib.byteCells_length]; exact hlen) hBw).mono ?_
  rintro e w' ⟨he, h1, h2, h3⟩
  exact ⟨he, by rw [byte_app, ← byte_one]; exact h1, h2, h3⟩
theorem wStr {B b : Nat} {l : List UInt8} {w : World} (s : ByteArray) (h : Bld 49 B b [] (Lib.byteCells l) w) (hlen : l.length + (vbl s).length ≤ 140737488355328) (hBw : B ≤ w.heap.size) :
    Calls Tryz.prog 31 #[.pointer (some ⟨b, 0, none⟩), .string s] w fun e w' => e = .returned (.tuple #[.int .i64 s.size, .nilIface]) ∧ (Bld 49 B b [] (Lib.byteCells (l ++ vbl s)) w' ∧ Below B w w' ∧ Lib.OthersKept 5 (some b) w w') := by
  refine (writeString_any s Fit.plain h (by rw [Lib.byteCells_length]; exact hlen) hBw).mono ?_
  rintro e w' ⟨he, h1, h2, h3⟩
  exact ⟨he, by rw [byte_app, ← byte_str]; exact h1, h2, h3⟩

theorem pts_step (f : JV → List UInt8) (ob : Bool) (ns : List ByteArray) (ps : List JV) (k : Nat) (h : k < ps.length) :
    pts f ob (k == 0) (ns.drop k) (ps.drop k) = (if k == 0 then [] else [44]) ++ ((if ob then quoteB (vbl ((ns.drop k).headD ⟨#[]⟩)) ++ [58] else []) ++ (f ps[k] ++ pts f ob false (ns.drop (k + 1)) (ps.drop (k + 1)))) := by
  rw [List.drop_eq_getElem_cons h]
  conv => lhs; unfold pts
  rw [List.tail_drop]

def PartsRel (B b kb : Nat) (T : List UInt8) (f : JV → List UInt8) (ob : Bool) (x : JV) (an : Option Addr) (cn : Nat) (ap : Option Addr) (cp : Nat) (bs : List UInt8) (w : World) (i : Value) (wr : World) : Prop :=
  ∃ (k : Nat) (acc : List UInt8), k ≤ x.ps.length ∧ i = .int .i64 k ∧ Bld 49 B b [] (Lib.byteCells (bs ++ acc)) wr ∧ Below B w wr ∧ Lib.OthersKept 5 (some b) w wr ∧
    wr.heap[kb]? = some (.cells #[.int .i64 x.k, .string x.s, .slice an x.ns.length cn, .slice ap x.ps.length cp] 25 (0, 0)) ∧ T = acc ++ pts f ob (k == 0) (x.ns.drop k) (x.ps.drop k)

/-- The state inside a round: the builder, the value's box, the element's box. -/
structure StT (B b kb ke : Nat) (bx ex : Array Value) (l : List UInt8) (wr W : World) : Prop where
  bld : Bld 49 B b [] (Lib.byteCells l) W
  bel : Below B wr W
  kep : Lib.OthersKept 5 (some b) wr W
  box : W.heap[kb]? = some (.cells bx 25 (0, 0))
  el : W.heap[ke]? = some (.cells ex 25 (0, 0))
  le : B ≤ W.heap.size

theorem cells_ne (bx : Array Value) : ∀ c fz, (Obj.cells bx 25 (0, 0)) ≠ .cells c 5 fz := by
  intro c fz h
  injection h with _ h
  exact absurd h (by decide)

theorem StT.write {B b kb ke : Nat} {bx ex : Array Value} {l l' : List UInt8} {wr W W' : World} (h : StT B b kb ke bx ex l wr W) (hkb : kb ≠ b) (hke : ke ≠ b)
    (h1 : Bld 49 B b [] (Lib.byteCells l') W') (h2 : Below B W W') (h3 : Lib.OthersKept 5 (some b) W W') : StT B b kb ke bx ex l' wr W' :=
  ⟨h1, h.bel.trans h2, h.kep.trans h3, h3 kb _ h.box (by simpa using hkb) (cells_ne bx), h3 ke _ h.el (by simpa using hke) (cells_ne ex), Nat.le_trans h.le h2.size⟩
theorem StT.below {B b kb ke : Nat} {bx ex : Array Value} {l : List UInt8} {wr W W' : World} (h : StT B b kb ke bx ex l wr W) (hb : Below W.heap.size W W') : StT B b kb ke bx ex l wr W' :=
  ⟨h.bld.below hb, h.bel.trans (hb.mono h.le), h.kep.trans (kept_below hb), (hb.block kb (Array.getElem?_eq_some_iff.1 h.box).1).trans h.box, (hb.block ke (Array.getElem?_eq_some_iff.1 h.el).1).trans h.el, Nat.le_trans h.le hb.size⟩
theorem StT.bcell {B b kb ke : Nat} {bx ex : Array Value} {l : List UInt8} {wr W : World} (h : StT B b kb ke bx ex l wr W) (j : Nat) : W.cell? ⟨kb, j, none⟩ = bx[j]? := Lib.cell_of_heap h.box j
theorem StT.ecell {B b kb ke : Nat} {bx ex : Array Value} {l : List UInt8} {wr W : World} (h : StT B b kb ke bx ex l wr W) (j : Nat) : W.cell? ⟨ke, j, none⟩ = ex[j]? := Lib.cell_of_heap h.el j

theorem head_drop (ns : List ByteArray) (k : Nat) (h : k < ns.length) : (ns.drop k).headD ⟨#[]⟩ = ns[k] := by
  rw [List.drop_eq_getElem_cons h]; rfl

end Go.Proofs.YtiblffipfldgjaaGreatDoor
