/-
  What jval.checkLeaf, checkSelf, checkAt and Check answer.
-/
import Derived.Test.YtiblffipfldgjaaGreatDoorChkN
import Derived.Test.YtiblffipfldgjaaGreatDoorNum
namespace Go.Proofs.YtiblffipfldgjaaGreatDoor
open Go.RowKit

def boolB (l : List UInt8) : Bool := l == [116, 114, 117, 101] || l == [102, 97, 108, 115, 101]
def leafB (k : Int) (l : List UInt8) : Bool :=
  if k = 1 then l.isEmpty else if k = 2 then boolB l else if k = 3 then numOk l && numWhole l else if k = 4 then numOk l && !numWhole l else if k = 5 then Lib.validD l else false

theorem empty_eq (s : ByteArray) : (s.toList == []) = (vbl s).isEmpty := by
  rw [Lib.toList_data]; unfold vbl; cases s.data.toList <;> rfl
theorem empty_eq' (s : ByteArray) : s.toList.isEmpty = (vbl s).isEmpty := by
  rw [Lib.toList_data]; rfl
theorem boolB_true {s : ByteArray} (h : s.toList = [116, 114, 117, 101]) : true = boolB (vbl s) := by
  rw [Lib.toList_data] at h; unfold boolB vbl; rw [h]; rfl
theorem boolB_eq (s : ByteArray) : (s.toList == [116, 114, 117, 101] || s.toList == [102, 97, 108, 115, 101]) = boolB (vbl s) := by
  rw [Lib.toList_data]; rfl

def BoolBelow (b : Bool) (w : World) (e : Ending) (w' : World) : Prop := e = .returned (.bool b) ∧ Below w.heap.size w w'
theorem boolBelow_of {a b : Bool} {w w' : World} (h : a = b) (hb : Below w.heap.size w w') : BoolBelow b w (.returned (.bool a)) w' := by subst h; exact ⟨rfl, hb⟩

theorem leaf_other {k : Int} (h1 : k ≠ 1) (h2 : k ≠ 2) (h3 : k ≠ 3) (h4 : k ≠ 4) (l : List UInt8) : leafB k l = if k = 5 then Lib.validD l else false := by
  unfold leafB; rw [if_neg h1, if_neg h2, if_neg h3, if_neg h4]

theorem str_cases (s : ByteArray) : s = ⟨#[]⟩ ∨ ((s.toList == []) = false ∧ Hid ((vbl s).isEmpty = false)) := by
  cases hs : vbl s with
  | nil => exact .inl (vbl_inj (b := ⟨#[]⟩) hs)
  | cons b r => exact .inr ⟨by rw [Lib.toList_data]; show (vbl s == []) = false; rw [hs]; rfl, Lib.hid rfl⟩
theorem len_zero {α : Type} (l : List α) : ((l.length : Int) == 0) = l.isEmpty := by
  cases l with
  | nil => rfl
  | cons a r => simp; omega

/-- A value alone, not its parts. -/
def selfB (x : JV) : Bool :=
  if x.k = 7 then (vbl x.s).isEmpty && x.ns.isEmpty else if x.k = 8 then (vbl x.s).isEmpty && decide (x.ns.length = x.ps.length) && nmOk x.ns else x.ns.isEmpty && x.ps.isEmpty && leafB x.k (vbl x.s)

theorem self_list {x : JV} (h : x.k = 7) : selfB x = ((vbl x.s).isEmpty && x.ns.isEmpty) := by unfold selfB; rw [if_pos h]
theorem self_obj {x : JV} (h : x.k = 8) : selfB x = ((vbl x.s).isEmpty && decide (x.ns.length = x.ps.length) && nmOk x.ns) := by unfold selfB; rw [if_neg (by omega), if_pos h]
theorem self_leaf {x : JV} (h : x.k ≠ 7) (h' : x.k ≠ 8) : selfB x = (x.ns.isEmpty && x.ps.isEmpty && leafB x.k (vbl x.s)) := by unfold selfB; rw [if_neg h, if_neg h']

/-- A value of JSON, at most so deep. -/
def chkAt : Nat → JV → Bool
  | 0, _ => false
  | m + 1, x => selfB x && x.ps.all (chkAt m)

def ChkRel (m : Nat) (ps : List JV) (w : World) (i : Value) (wr : World) : Prop :=
  ∃ k : Nat, k ≤ ps.length ∧ i = .int .i64 k ∧ Below w.heap.size w wr ∧ ps.all (chkAt m) = (ps.drop k).all (chkAt m)

theorem all_step {α : Type} (f : α → Bool) (l : List α) (k : Nat) (h : k < l.length) : (l.drop k).all f = (f l[k] && (l.drop (k + 1)).all f) := by
  rw [List.drop_eq_getElem_cons h, List.all_cons]

end Go.Proofs.YtiblffipfldgjaaGreatDoor
