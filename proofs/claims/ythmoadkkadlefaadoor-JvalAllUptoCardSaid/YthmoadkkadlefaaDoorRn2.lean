/-
  The document's Number and the program's say the same.
-/
import Derived.Test.YthmoadkkadlefaaDoorRn
namespace Go.Proofs.YthmoadkkadlefaaDoor
open Go.RowKit

theorem dd_drop (l : List UInt8) : dd l = l.drop (ndL l) := by
  induction l with
  | nil => rfl
  | cons a t ih =>
    rw [ndL_cons]
    unfold dd at ih ⊢
    rw [List.dropWhile_cons]
    cases digU a with
    | true => simpa using ih
    | false => rfl
theorem cutD_eq (l : List UInt8) : cutDigitsP l = (l.drop (ndL l), decide (ndL l ≠ 0)) := by
  unfold cutDigitsP
  rw [dd_drop]
  congr 1
  have := ndL_le l
  rw [List.length_drop, Bool.eq_iff_iff, decide_eq_true_eq, decide_eq_true_eq]
  omega
theorem begin_hd (l : List UInt8) (a b : UInt8) (ha : a ≠ 0) (hb : b ≠ 0) : beginB l [a, b] = decide (hdN l = a ∨ hdN l = b) := by
  cases l with
  | nil => exact (decide_eq_false (fun h => h.elim (fun h => ha h.symm) (fun h => hb h.symm))).symm
  | cons c r =>
    show [a, b].contains c = decide (c = a ∨ c = b)
    rw [Bool.eq_iff_iff, decide_eq_true_eq, List.contains_iff_mem]
    simp
theorem pre_hd (l : List UInt8) (a : UInt8) (ha : a ≠ 0) : Lib.hasPrefix l [a] = decide (hdN l = a) := by
  cases l with
  | nil => exact (decide_eq_false (fun h => ha h.symm)).symm
  | cons c r =>
    show List.isPrefixOf [a] (c :: r) = decide (c = a)
    rw [Bool.eq_iff_iff, decide_eq_true_eq, List.isPrefixOf_iff_prefix, List.cons_prefix_cons]
    exact ⟨fun h => h.1.symm, fun h => ⟨h.symm, List.nil_prefix⟩⟩
theorem trim_hd (l : List UInt8) (a : UInt8) (ha : a ≠ 0) : Lib.trimPrefix l [a] = if hdN l = a then l.drop 1 else l := by
  unfold Lib.trimPrefix
  have h := pre_hd l a ha
  split
  · rename_i h1
    rw [if_pos (of_decide_eq_true (h.symm.trans h1))]
    rfl
  · rename_i h1
    rw [if_neg (fun e => h1 (h.trans (decide_eq_true e)))]

def okE (l : List UInt8) : Bool := (cutExponentP l).2 && (cutExponentP l).1.isEmpty
theorem rn5_eq (wh : Bool) (l : List UInt8) : rn5 wh l = (l.isEmpty && wh, l.isEmpty) := by
  unfold rn5
  cases l <;> simp
theorem rn3_eq (wh : Bool) (l : List UInt8) : rn3 wh l = (okE l && (wh && l.isEmpty), okE l) := by
  unfold rn3 okE cutExponentP
  rw [begin_hd l 101 69 (by decide) (by decide)]
  by_cases h : hdN l = 101 ∨ hdN l = 69
  · rw [if_pos h, if_pos (decide_eq_true h), cutD_eq]
    have hl : l.isEmpty = false := by
      cases l with
      | nil => exact absurd h (by decide)
      | cons => rfl
    have hs : (if hdN (l.drop 1) = 43 ∨ hdN (l.drop 1) = 45 then (l.drop 1).drop 1 else l.drop 1) = signCut (l.drop 1) := by
      unfold signCut
      rw [begin_hd (l.drop 1) 43 45 (by decide) (by decide)]
      by_cases h2 : hdN (l.drop 1) = 43 ∨ hdN (l.drop 1) = 45
      · rw [if_pos h2, if_pos (decide_eq_true h2)]
      · rw [if_neg h2, if_neg (by rw [decide_eq_false h2]; decide)]
    rw [hs, hl]
    generalize signCut (l.drop 1) = m
    unfold rn4
    by_cases h3 : ndL m = 0
    · rw [if_pos h3]; simp [h3]
    · rw [if_neg h3, rn5_eq]; simp [h3]
  · rw [if_neg h, if_neg (by rw [decide_eq_false h]; decide), rn5_eq]
    cases l <;> simp

def okF (l : List UInt8) : Bool := (cutFractionP l).2 && okE (cutFractionP l).1
theorem rn2_eq (l : List UInt8) : rn2 l = (okF l && l.isEmpty, okF l) := by
  unfold rn2 okF cutFractionP
  rw [pre_hd l 46 (by decide)]
  by_cases h : hdN l = 46
  · rw [if_pos h, if_pos (decide_eq_true h), trim_hd l 46 (by decide), if_pos h, cutD_eq]
    have hl : l.isEmpty = false := by
      cases l with
      | nil => exact absurd h (by decide)
      | cons => rfl
    rw [hl]
    generalize l.drop 1 = m
    by_cases h3 : ndL m = 0
    · rw [if_pos h3]; simp [h3]
    · rw [if_neg h3, rn3_eq]; simp [h3]
  · rw [if_neg h, if_neg (by rw [decide_eq_false h]; decide), rn3_eq]
    simp
def okW (l : List UInt8) : Bool := (cutWholeP l).2 && okF (cutWholeP l).1
theorem digF {t : List UInt8} (h : ndL t ≠ 0) : okF t = false := by
  cases t with
  | nil => exact absurd rfl h
  | cons a t =>
    rw [ndL_cons] at h
    have hd : digU a = true := by
      cases hx : digU a with
      | true => rfl
      | false => rw [hx] at h; exact absurd rfl h
    have hn : ∀ c : UInt8, digU c = false → a ≠ c := by
      rintro c hc rfl; rw [hd] at hc; cases hc
    unfold okF cutFractionP
    have h1 : decide (hdN (a :: t) = 46) = false := decide_eq_false (hn 46 (by decide))
    have h2 : decide (hdN (a :: t) = 101 ∨ hdN (a :: t) = 69) = false := decide_eq_false (fun h => h.elim (fun h => hn 101 (by decide) h) (fun h => hn 69 (by decide) h))
    rw [pre_hd _ 46 (by decide), h1]
    show (true && okE (a :: t)) = false
    unfold okE cutExponentP
    rw [begin_hd _ 101 69 (by decide) (by decide), h2]
    rfl
theorem rn1_eq (l : List UInt8) : rn1 l = (okW l && (cutWholeP l).1.isEmpty, okW l) := by
  unfold rn1 okW cutWholeP
  rw [pre_hd l 48 (by decide)]
  by_cases h : hdN l = 48
  · rw [if_pos (decide_eq_true h), trim_hd l 48 (by decide), if_pos h]
    cases l with
    | nil => exact absurd h (by decide)
    | cons a t =>
      obtain rfl : a = 48 := h
      rw [ndL_cons, show digU 48 = true from rfl, if_pos rfl]
      show _ = (true && okF t && t.isEmpty, true && okF t)
      by_cases h2 : ndL t = 0
      · rw [h2, if_neg (fun h => h.elim (fun h => by cases h) (fun h => absurd h.1 (by omega))), rn2_eq]
        simp
      · rw [if_pos (.inr ⟨by omega, rfl⟩), digF h2]
        rfl
  · rw [decide_eq_false h]
    simp only [Bool.false_eq_true, if_false]
    rw [cutD_eq]
    by_cases h2 : ndL l = 0
    · rw [if_pos (.inl h2)]; simp [h2]
    · rw [if_neg (fun h3 => h3.elim h2 (fun h3 => h h3.2)), rn2_eq]; simp [h2]
theorem rn0_eq (l : List UInt8) : rn0 l = (numWhole l, numOk l) := by
  unfold rn0 numWhole
  have e : numOk l = (decide (l.length ≤ 40) && okW (Lib.trimPrefix l [45])) := by
    unfold numOk numE numF numW okW okF okE
    simp only [Bool.and_assoc]
  by_cases h : 40 < l.length
  · rw [if_pos h, e, decide_eq_false (by omega)]; rfl
  · rw [if_neg h, e, decide_eq_true (by omega), rn1_eq, ← trim_hd l 45 (by decide)]
    rfl

theorem refnum_any (s : ByteArray) (w : World) : Calls Tryd.prog 10 #[.string s] w fun e w' => e = .returned (.tuple #[.bool (numWhole s.data.toList), .bool (numOk s.data.toList)]) ∧ w = w' := by
  have h := refnum_rn s w
  unfold NumRn at h
  rw [rn0_eq] at h
  exact h

end Go.Proofs.YthmoadkkadlefaaDoor
