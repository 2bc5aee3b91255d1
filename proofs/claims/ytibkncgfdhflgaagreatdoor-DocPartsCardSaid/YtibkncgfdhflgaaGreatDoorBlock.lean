/-
  What runes.Block answers.
-/
import Derived.Test.YtibkncgfdhflgaaGreatDoorSplit2
namespace Go.Proofs.YtibkncgfdhflgaaGreatDoor
open Go.RowKit

/-- A line without so many blanks. -/
def cutS (L : Int) (x : ByteArray) : ByteArray := x.extract (min L (indent (bl x))).toNat x.size
def cutL (L : Int) (x : List UInt8) : List UInt8 := x.drop (min L (indent x)).toNat
def cutAll (ls : List (List UInt8)) : List (List UInt8) := match ls with
  | [] => []
  | a :: r => a :: r.map (cutL (leastI r))
def trimLL (ls : List (List UInt8)) : List (List UInt8) := ((ls.dropWhile blankB).reverse.dropWhile blankB).reverse
def blockB (l : List UInt8) : List UInt8 := joinB (trimLL (cutAll (linesB l)))

theorem cutS_bl (L : Int) (x : ByteArray) : bl (cutS L x) = cutL L (bl x) := by
  unfold cutS cutL
  show (x.extract _ _).data.toList = _
  rw [Lib.extract_data]
  refine List.take_of_length_le ?_
  rw [List.length_drop]
  exact Nat.le_refl _

theorem dropWhile_map (xs : List ByteArray) : (xs.map bl).dropWhile blankB = (xs.dropWhile blankS).map bl := by
  induction xs with
  | nil => rfl
  | cons x r ih =>
    rw [List.map_cons, List.dropWhile_cons, List.dropWhile_cons]
    have : blankB (bl x) = blankS x := rfl
    rw [this]
    split
    · exact ih
    · rfl
theorem trim_map (xs : List ByteArray) : trimLL (xs.map bl) = (trimS xs).map bl := by
  unfold trimLL trimS trimBack trimFront
  rw [dropWhile_map, ← List.map_reverse, dropWhile_map, List.map_reverse]

/-- The row of lines in block g holds these strings in its first cells. -/
def RowIs (w : World) (g cap : Nat) (xs : List ByteArray) : Prop :=
  ∃ cur : Array Value, w.heap[g]? = some (.cells cur 9 (0, 0)) ∧ cur.size = cap ∧ xs.length ≤ cap ∧ ∀ (i : Nat) (x : ByteArray), xs[i]? = some x → cur[i]? = some (Value.string x)

theorem RowIs.cell {w : World} {g cap : Nat} {xs : List ByteArray} (h : RowIs w g cap xs) (i : Nat) (x : ByteArray) (hx : xs[i]? = some x) : w.cell? ⟨g, i, none⟩ = some (Value.string x) := by
  obtain ⟨cur, hg, hc, _, hx'⟩ := h
  rw [Lib.cell_of_heap hg]
  exact hx' i x hx
theorem RowIs.frozen {w : World} {g cap : Nat} {xs : List ByteArray} (h : RowIs w g cap xs) (i : Nat) : w.frozen? ⟨g, i, none⟩ = false := by
  obtain ⟨cur, hg, _⟩ := h
  exact Lib.frozen_of_heap hg i
theorem RowIs.lt {w : World} {g cap : Nat} {xs : List ByteArray} (h : RowIs w g cap xs) : g < w.heap.size := by
  obtain ⟨cur, hg, _⟩ := h
  exact (Array.getElem?_eq_some_iff.1 hg).1
theorem RowIs.below {w w' : World} {g cap : Nat} {xs : List ByteArray} (h : RowIs w g cap xs) (hb : Below w.heap.size w w') : RowIs w' g cap xs := by
  have hl := h.lt
  obtain ⟨cur, hg, r⟩ := h
  exact ⟨cur, by rw [hb.block g hl]; exact hg, r⟩
theorem RowIs.set {w : World} {g cap : Nat} {xs : List ByteArray} (h : RowIs w g cap xs) (i : Nat) (y : ByteArray) (hi : i < xs.length) : RowIs (w.setCell ⟨g, i, none⟩ (.string y)) g cap (xs.set i y) := by
  obtain ⟨cur, hg, hc, hl, hx⟩ := h
  refine ⟨cur.setIfInBounds i (.string y), ?_, by simp [hc], by simpa using hl, ?_⟩
  · simp [World.setCell, Array.getElem?_modify, hg]
  · intro j x hj
    rw [List.getElem?_set] at hj
    by_cases hij : i = j
    · subst hij
      rw [if_pos rfl, if_pos hi] at hj
      rw [Array.getElem?_setIfInBounds_self_of_lt (by omega)]
      cases hj
      rfl
    · rw [if_neg hij] at hj
      rw [Array.getElem?_setIfInBounds_ne hij]
      exact hx j x hj
theorem RowIs.at {w : World} {g cap : Nat} {a : ByteArray} {r : List ByteArray} (h : RowIs w g cap (a :: r)) : RowAt w g 1 r := by
  refine ⟨h.lt, fun i x hx => ?_⟩
  rw [Nat.add_comm]
  exact h.cell (i + 1) x (by simpa using hx)
theorem RowIs.all {w : World} {g cap : Nat} {xs : List ByteArray} (h : RowIs w g cap xs) : RowAt w g 0 xs := by
  refine ⟨h.lt, fun i x hx => ?_⟩
  rw [Nat.zero_add]
  exact h.cell i x hx

theorem rowIs_of {w : World} {B : Nat} {v : Value} {xs : List ByteArray} (h : w.ownsRow B 9 1 v xs.length (strVals xs)) (hne : xs ≠ []) : ∃ g cap, v = .slice (some ⟨g, 0, none⟩) xs.length cap ∧ B ≤ g ∧ cap ≤ maxLen ∧ RowIs w g cap xs := by
  rcases h.2 with ⟨_, hn⟩ | ⟨g, cap, cur, hv, hb, hg, r1, r2, r3, r4⟩
  · exact absurd (List.eq_nil_of_length_eq_zero hn) hne
  · refine ⟨g, cap, hv, hb, r2, cur, hg, by omega, r1, fun i x hx => ?_⟩
    have hi : i < xs.length := (List.getElem?_eq_some_iff.1 hx).1
    have e : (cur.toList.take (xs.length * 1))[i]? = some (Value.string x) := by
      rw [r4]
      unfold strVals
      rw [List.getElem?_map, hx]
      rfl
    rw [List.getElem?_take, if_pos (by omega)] at e
    simpa using e

end Go.Proofs.YtibkncgfdhflgaaGreatDoor
