/-
  What lex reads, as plain functions of the bytes: words, remarks, tokens.
-/
import Derived.Test.YtibkncgfdhflgaaGreatDoorNum
import Derived.Test.YtibkncgfdhflgaaGreatDoorLetters
import Derived.Test.YtibkncgfdhflgaaGreatDoorUnq3
import Derived.Test.YtibkncgfdhflgaaGreatDoorBlock2
namespace Go.Proofs.YtibkncgfdhflgaaGreatDoor
open Go.RowKit

/-- What a word is: its kind, what it says, how many bytes it has. -/
abbrev Wd := Option (Nat × List UInt8 × Nat)

def lettersS : ByteArray := ⟨#[97, 98, 99, 100, 101, 102, 103, 104, 105, 106, 107, 108, 109, 110, 111, 112, 113, 114, 115, 116, 117, 118, 119, 120, 121, 122, 65, 66, 67, 68, 69, 70, 71, 72, 73, 74, 75, 76, 77, 78, 79, 80, 81, 82, 83, 84, 85, 86, 87, 88, 89, 90, 95]⟩
def signsS : ByteArray := ⟨#[33, 36, 38, 40, 41, 58, 61, 64, 91, 93, 123, 124, 125]⟩

def letU (b : UInt8) : Bool := letB b.toNat
def nmU (b : UInt8) : Bool := letU b || digU b
def nbU (b : UInt8) : Bool := nmU b || b == 46 || b == 43 || b == 45
def lxBlank (b : UInt8) : Bool := b == 32 || b == 9 || b == 10 || b == 13 || b == 44
def lxEnd (b : UInt8) : Bool := b == 10 || b == 13

def lxFence : List UInt8 := [34, 34, 34]
def lxEsc : List UInt8 := [92, 34, 34, 34]
def lxDots : List UInt8 := [46, 46, 46]

def lxName (l : List UInt8) : Wd := if nameB (l.takeWhile nmU) then some (1, l.takeWhile nmU, (l.takeWhile nmU).length) else none
def lxNum (l : List UInt8) : Wd := if numOk (l.takeWhile nbU) then some (if numWhole (l.takeWhile nbU) then 2 else 3, l.takeWhile nbU, (l.takeWhile nbU).length) else none

/-- How many bytes a text in quotes has, i of them ahead of l; 0: its line ends first. -/
def lxQs : Nat → List UInt8 → Nat
  | _, [] => 0
  | i, [b] => if b = 34 then i + 1 else 0
  | i, b :: c :: r => if b = 34 then i + 1 else if b = 92 then lxQs (i + 2) r else if lxEnd b then 0 else lxQs (i + 1) (c :: r)
def lxQn (l : List UInt8) : Nat := lxQs 1 (l.drop 1)
def lxQuoted (l : List UInt8) : Wd := match unqP (l.take (lxQn l)) with
  | none => none
  | some t => some (4, t, lxQn l)

/-- What stands ahead of the second fence, and how many bytes there are up to its end (i of them ahead of l); by fuel. -/
def lxCut : Nat → Nat → List UInt8 → List UInt8 → Option (List UInt8 × Nat)
  | 0, _, _, _ => none
  | _ + 1, _, _, [] => none
  | f + 1, i, acc, b :: r =>
    if Lib.hasPrefix (b :: r) lxFence then some (acc, i + 3)
    else if Lib.hasPrefix (b :: r) lxEsc then lxCut f (i + 4) (acc ++ lxFence) (r.drop 3)
    else lxCut f (i + 1) (acc ++ [b]) r
def rawU (b : UInt8) : Bool := !(decide (b.toNat < 32) && b != 9 && b != 10 && b != 13)
def lxRaw (l : List UInt8) : Bool := l.all rawU && Lib.validD l
def lxBlock (l : List UInt8) : Wd := match lxCut l.length 3 [] (l.drop 3) with
  | none => none
  | some (raw, n) => if lxRaw raw then some (4, blockB raw, n) else none

def lxSign (l : List UInt8) : Wd := if Lib.hasPrefix l lxDots then some (5, lxDots, 3) else match l with
  | [] => none
  | b :: _ => if signsS.data.toList.contains b then some (5, [b], 1) else none

def lxWord (l : List UInt8) : Wd := match l with
  | [] => none
  | b :: _ => if letU b then lxName l else if b == 45 || digU b then lxNum l else if Lib.hasPrefix l lxFence then lxBlock l else if b == 34 then lxQuoted l else lxSign l

def lxRem (l : List UInt8) : Nat := (l.takeWhile fun b => !lxEnd b).length

/-- A token. -/
structure Tk where
  k : Nat
  s : List UInt8
  at_ : Nat

/-- The tokens, or none, the place and the error; by fuel. -/
def lxGo : Nat → Nat → List UInt8 → List Tk → List Tk × Nat × Nat
  | 0, _, _, acc => (acc, 0, 0)
  | _ + 1, _, [], acc => (acc, 0, 0)
  | f + 1, a, b :: r, acc =>
    if lxBlank b then lxGo f (a + 1) r acc
    else if b == 35 then lxGo f (a + lxRem (b :: r)) ((b :: r).drop (lxRem (b :: r))) acc
    else match lxWord (b :: r) with
      | none => ([], a, 2)
      | some (k, s, n) => lxGo f (a + n) ((b :: r).drop n) (acc ++ [⟨k, s, a⟩])
def lexP (l : List UInt8) : List Tk × Nat × Nat := if 8000 < l.length then ([], 0, 3) else lxGo (l.length + 1) 0 l []

/-! ### the sets of bytes -/
theorem letters_has (b : UInt8) : lettersS.data.toList.contains b = letU b := by
  have hb := b.toNat_lt
  rw [Bool.eq_iff_iff]
  simp only [lettersS, letU, letB, List.contains_iff_mem, List.mem_cons, List.not_mem_nil, or_false, decide_eq_true_eq, ← UInt8.toNat_inj]
  simp
  omega
theorem nm_has (b : UInt8) : (lettersS.data.toList ++ digitsS.data.toList).contains b = nmU b := by
  unfold nmU
  rw [← letters_has, ← digits_has, Bool.eq_iff_iff]
  simp only [List.contains_iff_mem, List.mem_append, Bool.or_eq_true]
theorem nb_has (b : UInt8) : (lettersS.data.toList ++ digitsS.data.toList ++ [46, 43, 45]).contains b = nbU b := by
  unfold nbU
  rw [← nm_has, Bool.eq_iff_iff]
  simp only [List.contains_iff_mem, List.mem_append, Bool.or_eq_true, List.mem_cons, List.not_mem_nil, or_false, beq_iff_eq, or_assoc]

theorem take_while (p : UInt8 → Bool) (l : List UInt8) : l.take (l.length - (l.dropWhile p).length) = l.takeWhile p := by
  have h : l.takeWhile p ++ l.dropWhile p = l := List.takeWhile_append_dropWhile
  have hl : l.length = (l.takeWhile p).length + (l.dropWhile p).length := by rw [← List.length_append, h]
  have e : l.length - (l.dropWhile p).length = (l.takeWhile p).length := by omega
  rw [e]
  have := List.take_left (l₁ := l.takeWhile p) (l₂ := l.dropWhile p)
  rwa [h] at this

/-! ### how much is left -/
theorem lxQs_le : ∀ (n : Nat) (l : List UInt8) (i : Nat), l.length ≤ n → lxQs i l ≤ i + l.length ∧ (lxQs i l = 0 ∨ i + 1 ≤ lxQs i l)
  | _, [], _, _ => ⟨Nat.zero_le _, .inl rfl⟩
  | _, [b], i, _ => by
    unfold lxQs
    split
    · simp
    · simp
  | 0, _ :: _ :: _, _, h => by simp at h
  | n + 1, b :: c :: r, i, h => by
    unfold lxQs
    simp only [List.length_cons] at h
    have h1 := lxQs_le n r (i + 2) (by omega)
    have h2 := lxQs_le n (c :: r) (i + 1) (by simp; omega)
    simp only [List.length_cons] at h2 ⊢
    split
    · omega
    · split
      · omega
      · split
        · omega
        · omega
theorem lxCut_le : ∀ (f i : Nat) (acc l : List UInt8) (raw : List UInt8) (n : Nat), lxCut f i acc l = some (raw, n) → n ≤ i + l.length ∧ i + 3 ≤ n ∧ raw.length ≤ acc.length + l.length
  | 0, _, _, _, _, _, h => by simp [lxCut] at h
  | _ + 1, _, _, [], _, _, h => by simp [lxCut] at h
  | f + 1, i, acc, b :: r, raw, n, h => by
    unfold lxCut at h
    split at h
    · rename_i hp
      have hl := (List.isPrefixOf_iff_prefix.1 hp).length_le
      simp only [lxFence, List.length_cons, List.length_nil] at hl
      simp only [Option.some.injEq, Prod.mk.injEq] at h
      obtain ⟨rfl, rfl⟩ := h
      simp only [List.length_cons]
      omega
    · split at h
      · rename_i hp
        have hl := (List.isPrefixOf_iff_prefix.1 hp).length_le
        simp only [lxEsc, List.length_cons, List.length_nil] at hl
        have := lxCut_le f (i + 4) (acc ++ lxFence) (r.drop 3) raw n h
        simp only [List.length_drop, List.length_append, lxFence, List.length_cons, List.length_nil] at this ⊢
        omega
      · have := lxCut_le f (i + 1) (acc ++ [b]) r raw n h
        simp only [List.length_append, List.length_cons, List.length_nil] at this ⊢
        omega
theorem takeWhile_le (p : UInt8 → Bool) (l : List UInt8) : (l.takeWhile p).length ≤ l.length := (List.takeWhile_sublist _).length_le
theorem nameB_pos {l : List UInt8} (h : nameB l = true) : 0 < l.length := by
  cases l with
  | nil => simp [nameB] at h
  | cons => simp
theorem numOk_pos {l : List UInt8} (h : numOk l = true) : 0 < l.length := by
  cases l with
  | nil => exact absurd h (by decide)
  | cons => simp
theorem unqP_pos {l t : List UInt8} (h : unqP l = some t) : 0 < l.length := by
  cases l with
  | nil => exact absurd h (by rw [show unqP [] = none from by unfold unqP; rfl]; simp)
  | cons => simp

theorem lxName_le {l : List UInt8} {k : Nat} {s : List UInt8} {n : Nat} (h : lxName l = some (k, s, n)) : 0 < n ∧ n ≤ l.length := by
  unfold lxName at h
  split at h
  · rename_i hn
    simp only [Option.some.injEq, Prod.mk.injEq] at h
    obtain ⟨_, _, rfl⟩ := h
    exact ⟨nameB_pos hn, takeWhile_le _ _⟩
  · cases h
theorem lxNum_le {l : List UInt8} {k : Nat} {s : List UInt8} {n : Nat} (h : lxNum l = some (k, s, n)) : 0 < n ∧ n ≤ l.length := by
  unfold lxNum at h
  split at h
  · rename_i hn
    simp only [Option.some.injEq, Prod.mk.injEq] at h
    obtain ⟨_, _, rfl⟩ := h
    exact ⟨numOk_pos hn, takeWhile_le _ _⟩
  · cases h
theorem lxQuoted_le {l : List UInt8} {k : Nat} {s : List UInt8} {n : Nat} (h : lxQuoted l = some (k, s, n)) : 0 < n ∧ n ≤ l.length := by
  unfold lxQuoted at h
  split at h
  · cases h
  · rename_i t hn
    simp only [Option.some.injEq, Prod.mk.injEq] at h
    obtain ⟨_, _, rfl⟩ := h
    have hp := unqP_pos hn
    have hq : lxQn l ≤ _ ∧ _ := lxQs_le (l.drop 1).length (l.drop 1) 1 (Nat.le_refl _)
    rw [List.length_take] at hp
    rw [List.length_drop] at hq
    omega
theorem lxBlock_le {l : List UInt8} {k : Nat} {s : List UInt8} {n : Nat} (h : lxBlock l = some (k, s, n)) : 0 < n ∧ n ≤ l.length := by
  unfold lxBlock at h
  split at h
  · cases h
  · rename_i raw m hc
    split at h
    · simp only [Option.some.injEq, Prod.mk.injEq] at h
      obtain ⟨_, _, rfl⟩ := h
      have hq := lxCut_le _ _ _ _ _ _ hc
      rw [List.length_drop] at hq
      omega
    · cases h
theorem lxSign_le {l : List UInt8} {k : Nat} {s : List UInt8} {n : Nat} (h : lxSign l = some (k, s, n)) : 0 < n ∧ n ≤ l.length := by
  unfold lxSign at h
  split at h
  · rename_i hp
    have hl := (List.isPrefixOf_iff_prefix.1 hp).length_le
    simp only [lxDots, List.length_cons, List.length_nil] at hl
    simp only [Option.some.injEq, Prod.mk.injEq] at h
    omega
  · split at h
    · cases h
    · split at h
      · simp only [Option.some.injEq, Prod.mk.injEq] at h
        simp only [List.length_cons]
        omega
      · cases h
theorem lxWord_le {l : List UInt8} {k : Nat} {s : List UInt8} {n : Nat} (h : lxWord l = some (k, s, n)) : 0 < n ∧ n ≤ l.length := by
  unfold lxWord at h
  split at h
  · cases h
  · split at h
    · exact lxName_le h
    · split at h
      · exact lxNum_le h
      · split at h
        · exact lxBlock_le h
        · split at h
          · exact lxQuoted_le h
          · exact lxSign_le h
theorem lxRem_le (l : List UInt8) : lxRem l ≤ l.length := takeWhile_le _ _
theorem lxRem_pos {b : UInt8} {r : List UInt8} (h : (b == 35) = true) : 0 < lxRem (b :: r) := by
  have e : b = 35 := by simpa using h
  subst e
  unfold lxRem
  rw [List.takeWhile_cons, if_pos (by decide)]
  simp

/-! ### the tokens, step by step -/
theorem lxGo_nil (f a : Nat) (acc : List Tk) : lxGo f a [] acc = (acc, 0, 0) := by cases f <;> rfl
theorem lxGo_blank (f a : Nat) (b : UInt8) (r : List UInt8) (acc : List Tk) (h : lxBlank b = true) : lxGo (f + 1) a (b :: r) acc = lxGo f (a + 1) r acc := by
  rw [lxGo, if_pos h]
theorem lxGo_rem (f a : Nat) (b : UInt8) (r : List UInt8) (acc : List Tk) (h : lxBlank b = false) (h2 : (b == 35) = true) : lxGo (f + 1) a (b :: r) acc = lxGo f (a + lxRem (b :: r)) ((b :: r).drop (lxRem (b :: r))) acc := by
  rw [lxGo, if_neg (by rw [h]; decide), if_pos h2]
theorem lxGo_none (f a : Nat) (b : UInt8) (r : List UInt8) (acc : List Tk) (h : lxBlank b = false) (h2 : (b == 35) = false) (hw : lxWord (b :: r) = none) : lxGo (f + 1) a (b :: r) acc = ([], a, 2) := by
  rw [lxGo, if_neg (by rw [h]; decide), if_neg (by rw [h2]; decide), hw]
theorem lxGo_some (f a : Nat) (b : UInt8) (r : List UInt8) (acc : List Tk) (h : lxBlank b = false) (h2 : (b == 35) = false) {k : Nat} {s : List UInt8} {n : Nat} (hw : lxWord (b :: r) = some (k, s, n)) : lxGo (f + 1) a (b :: r) acc = lxGo f (a + n) ((b :: r).drop n) (acc ++ [⟨k, s, a⟩]) := by
  rw [lxGo, if_neg (by rw [h]; decide), if_neg (by rw [h2]; decide), hw]

end Go.Proofs.YtibkncgfdhflgaaGreatDoor
