/-
  What jval.writeValue and jval.Text write.
-/
import Derived.Test.YtiblffipfldgjaaGreatDoorText
namespace Go.Proofs.YtiblffipfldgjaaGreatDoor
open Go.RowKit

/-- The builder and the value's box. -/
structure Sb (B b kb : Nat) (bx : Array Value) (l : List UInt8) (w W : World) : Prop where
  bld : Bld 49 B b [] (Lib.byteCells l) W
  bel : Below B w W
  kep : Lib.OthersKept 5 (some b) w W
  box : W.heap[kb]? = some (.cells bx 25 (0, 0))
  le : B ≤ W.heap.size
theorem Sb.write {B b kb : Nat} {bx : Array Value} {l l' : List UInt8} {w W W' : World} (h : Sb B b kb bx l w W) (hkb : kb ≠ b)
    (h1 : Bld 49 B b [] (Lib.byteCells l') W') (h2 : Below B W W') (h3 : Lib.OthersKept 5 (some b) W W') : Sb B b kb bx l' w W' :=
  ⟨h1, h.bel.trans h2, h.kep.trans h3, h3 kb _ h.box (by simpa using hkb) (cells_ne bx), Nat.le_trans h.le h2.size⟩
theorem Sb.below {B b kb : Nat} {bx : Array Value} {l : List UInt8} {w W W' : World} (h : Sb B b kb bx l w W) (hb : Below W.heap.size W W') : Sb B b kb bx l w W' :=
  ⟨h.bld.below hb, h.bel.trans (hb.mono h.le), h.kep.trans (kept_below hb), (hb.block kb (Array.getElem?_eq_some_iff.1 h.box).1).trans h.box, Nat.le_trans h.le hb.size⟩
theorem Sb.cell {B b kb : Nat} {bx : Array Value} {l : List UInt8} {w W : World} (h : Sb B b kb bx l w W) (j : Nat) : W.cell? ⟨kb, j, none⟩ = bx[j]? := Lib.cell_of_heap h.box j
theorem Sb.done {B b kb : Nat} {bx : Array Value} {l l' : List UInt8} {w W : World} (h : Sb B b kb bx l w W) (e : l = l') : Wrote B b l' w (.returned (.tuple #[])) W := by
  subst e; exact ⟨rfl, h.bld, h.bel, h.kep⟩

theorem txt_leaf {m : Nat} {x : JV} (h1 : x.k ≠ 1) (h5 : x.k ≠ 5) (h7 : x.k ≠ 7) (h8 : x.k ≠ 8) : txt (m + 1) x = vbl x.s := by
  unfold txt; rw [if_neg h1, if_neg h5, if_neg h7, if_neg h8]
theorem txt_null {m : Nat} {x : JV} (h1 : x.k = 1) : txt (m + 1) x = nullL := by unfold txt; rw [if_pos h1]
theorem txt_str {m : Nat} {x : JV} (h1 : x.k = 5) : txt (m + 1) x = quoteB (vbl x.s) := by unfold txt; rw [if_neg (by omega), if_pos h1]
theorem txt_list {m : Nat} {x : JV} (h1 : x.k = 7) : txt (m + 1) x = [91] ++ (pts (txt m) false true x.ns x.ps ++ [93]) := by unfold txt; rw [if_neg (by omega), if_neg (by omega), if_pos h1]
theorem txt_obj {m : Nat} {x : JV} (h1 : x.k = 8) : txt (m + 1) x = [123] ++ (pts (txt m) true true x.ns x.ps ++ [125]) := by unfold txt; rw [if_neg (by omega), if_neg (by omega), if_neg (by omega), if_pos h1]

/-- Text: empty, if it is no value of JSON. -/
def textB (x : JV) : List UInt8 := if chkAt 12 x then txt 12 x else []

end Go.Proofs.YtiblffipfldgjaaGreatDoor
