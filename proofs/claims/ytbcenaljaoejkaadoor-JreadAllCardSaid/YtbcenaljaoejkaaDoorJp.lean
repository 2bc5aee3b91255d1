/-
  What jread reads, as plain functions of the bytes: blanks, texts in quotes, numbers, values.
-/
import Derived.Test.YtbcenaljaoejkaaDoorChkN
import Derived.Test.YtbcenaljaoejkaaDoorNum
import Derived.Test.YtbcenaljaoejkaaDoorUnq3
namespace Go.Proofs.YtbcenaljaoejkaaDoor
open Go.RowKit

def blankU (b : UInt8) : Bool := b == 32 || b == 9 || b == 10 || b == 13
/-- Behind the blanks. -/
def sk (l : List UInt8) : List UInt8 := l.dropWhile blankU

/-- How many bytes stand ahead of the quote that ends a text. -/
def qLen : List UInt8 → Nat
  | [] => 0
  | [b] => if b = 34 then 0 else if b = 92 then 2 else 1
  | b :: c :: r => if b = 34 then 0 else if b = 92 then 2 + qLen r else 1 + qLen (c :: r)

/-- A text in quotes (l begins with one): what it says, and what stands behind it. -/
def qt (l : List UInt8) : Option (List UInt8 × List UInt8) :=
  if qLen (l.drop 1) + 1 < l.length then (unqP (l.take (qLen (l.drop 1) + 2))).map fun t => (t, l.drop (qLen (l.drop 1) + 2)) else none

def numSigns : ByteArray := ⟨#[43, 45, 46, 48, 49, 50, 51, 52, 53, 54, 55, 56, 57, 101, 69]⟩
def nd (l : List UInt8) : List UInt8 := Lib.trimLeftS l numSigns.data.toList
def nt (l : List UInt8) : List UInt8 := l.take (l.length - (nd l).length)

def e0 : ByteArray := ⟨#[]⟩
def ofL (l : List UInt8) : ByteArray := ⟨l.toArray⟩

/-- A value, what stands behind it, was it too deep, was a name there twice. -/
abbrev PR := JV × List UInt8 × Bool × Bool

def wordP (word : List UInt8) (k : Int) (s : ByteArray) (d t : Bool) (l : List UInt8) : Option PR :=
  if Lib.hasPrefix l word then some (.mk k s [] [], l.drop word.length, d, t) else none

def numP (d t : Bool) (l : List UInt8) : Option PR :=
  if numOk (nt l) then some (.mk (if numWhole (nt l) then 3 else 4) (ofL (nt l)) [] [], nd l, d, t) else none

def hd (l : List UInt8) : UInt8 := l.headD 0

/-- A way to read one value (too deep so far, a name twice so far). -/
abbrev Rdg := Bool → Bool → List UInt8 → Option PR

def listGo (V : Rdg) : Nat → List UInt8 → List JV → Bool → Bool → Option PR
  | 0, _, _, _, _ => none
  | n + 1, r, xs, d, t =>
    match V d t r with
    | none => none
    | some (x, r1, d1, t1) =>
      if hd (sk r1) = 93 then some (.mk 7 e0 [] (xs ++ [x]), (sk r1).drop 1, d1, t1)
      else if hd (sk r1) = 44 then listGo V n ((sk r1).drop 1) (xs ++ [x]) d1 t1
      else none

def listP (V : Rdg) (n : Nat) (d t : Bool) (r : List UInt8) : Option PR :=
  if hd (sk r) = 93 then some (.mk 7 e0 [] [], (sk r).drop 1, d, t) else listGo V n r [] d t

def objGo (V : Rdg) : Nat → List UInt8 → List ByteArray → List JV → Bool → Bool → Option PR
  | 0, _, _, _, _, _ => none
  | n + 1, r, ns, xs, d, t =>
    if hd (sk r) = 34 then
      match qt (sk r) with
      | none => none
      | some (nm, r1) =>
        if hd (sk r1) = 58 then
          match V d (t || (ns.map vbl).contains nm) ((sk r1).drop 1) with
          | none => none
          | some (x, r2, d1, t1) =>
            if hd (sk r2) = 125 then some (.mk 8 e0 (ns ++ [ofL nm]) (xs ++ [x]), (sk r2).drop 1, d1, t1)
            else if hd (sk r2) = 44 then objGo V n ((sk r2).drop 1) (ns ++ [ofL nm]) (xs ++ [x]) d1 t1
            else none
        else none
    else none

def objP (V : Rdg) (n : Nat) (d t : Bool) (r : List UInt8) : Option PR :=
  if hd (sk r) = 125 then some (.mk 8 e0 [] [], (sk r).drop 1, d, t) else objGo V n r [] [] d t

def deepB (dep : Nat) : Bool := decide (12 < dep)

def wNull : List UInt8 := [110, 117, 108, 108]
def wTrue : List UInt8 := [116, 114, 117, 101]
def wFalse : List UInt8 := [102, 97, 108, 115, 101]

def pv : Nat → Nat → Rdg
  | 0, _, _, _, _ => none
  | f + 1, dep, d, t, l =>
    if hd (sk l) = 91 then listP (pv f (dep + 1)) f (d || deepB dep) t ((sk l).drop 1)
    else if hd (sk l) = 123 then objP (pv f (dep + 1)) f (d || deepB dep) t ((sk l).drop 1)
    else if hd (sk l) = 34 then (qt (sk l)).map fun p => (.mk 5 (ofL p.1) [] [], p.2, d || deepB dep, t)
    else if hd (sk l) = 110 then wordP wNull 1 e0 (d || deepB dep) t (sk l)
    else if hd (sk l) = 116 then wordP wTrue 2 (ofL wTrue) (d || deepB dep) t (sk l)
    else if hd (sk l) = 102 then wordP wFalse 2 (ofL wFalse) (d || deepB dep) t (sk l)
    else numP (d || deepB dep) t (sk l)

/-- What Read says: a value, or an error. -/
def readP (l : List UInt8) : Option JV × Nat :=
  if 4000 < l.length then (none, 3) else
    match pv (l.length + 1) 1 false false l with
    | none => (none, 2)
    | some (x, r, d, t) => if 0 < (sk r).length then (none, 2) else if d then (none, 4) else if t then (none, 5) else (some x, 0)

/-! ### what is read grows shorter -/
theorem sk_le (l : List UInt8) : (sk l).length ≤ l.length := (List.dropWhile_sublist _).length_le
theorem sk_nil : sk [] = [] := rfl
theorem sk_cons (b : UInt8) (l : List UInt8) : sk (b :: l) = if blankU b then sk l else b :: l := by
  unfold sk
  rw [List.dropWhile_cons]
theorem hd_pos {l : List UInt8} {c : UInt8} (h : hd l = c) (hc : c ≠ 0) : 0 < l.length := by
  cases l with
  | nil => exact absurd h.symm hc
  | cons => exact Nat.succ_pos _
theorem hd_cons {l : List UInt8} {c : UInt8} (h : hd l = c) (hc : c ≠ 0) : l = c :: l.drop 1 := by
  cases l with
  | nil => exact absurd h.symm hc
  | cons b r => subst h; rfl
theorem qt_le {l t r : List UInt8} (h : qt l = some (t, r)) : r.length + 2 ≤ l.length := by
  unfold qt at h
  split at h
  · rename_i hl
    simp only [Option.map_eq_some_iff] at h
    obtain ⟨t', _, e⟩ := h
    injection e with _ e
    rw [← e, List.length_drop]
    omega
  · cases h

/-- Every reading leaves less than it was given. -/
def Less (V : Rdg) : Prop := ∀ d0 t0 l x r d t, V d0 t0 l = some (x, r, d, t) → r.length < l.length

theorem listGo_less {V : Rdg} (hV : Less V) : ∀ (n : Nat) (r : List UInt8) (xs : List JV) (d t : Bool) (x : JV) (r' : List UInt8) (d' t' : Bool), listGo V n r xs d t = some (x, r', d', t') → r'.length < r.length
  | 0, _, _, _, _, _, _, _, _, h => by cases h
  | n + 1, r, xs, d, t, x, r', d', t', h => by
    unfold listGo at h
    cases hv : V d t r with
    | none => rw [hv] at h; cases h
    | some q =>
      obtain ⟨y, r1, d1, t1⟩ := q
      have h1 := hV _ _ _ _ _ _ _ hv
      have h2 := sk_le r1
      rw [hv] at h
      simp only at h
      split at h
      · injection h with h
        injection h with _ h
        injection h with h _
        rw [← h, List.length_drop]; omega
      · split at h
        · have h3 := listGo_less hV n _ _ _ _ _ _ _ _ h
          rw [List.length_drop] at h3; omega
        · cases h

theorem listP_less {V : Rdg} (hV : Less V) (n : Nat) (d t : Bool) (r : List UInt8) (x : JV) (r' : List UInt8) (d' t' : Bool) (h : listP V n d t r = some (x, r', d', t')) : r'.length < r.length := by
  unfold listP at h
  split at h
  · rename_i hh
    have h1 := hd_pos hh (by decide)
    have h2 := sk_le r
    injection h with h
    injection h with _ h
    injection h with h _
    rw [← h, List.length_drop]; omega
  · exact listGo_less hV n _ _ _ _ _ _ _ _ h

theorem objGo_less {V : Rdg} (hV : Less V) : ∀ (n : Nat) (r : List UInt8) (ns : List ByteArray) (xs : List JV) (d t : Bool) (x : JV) (r' : List UInt8) (d' t' : Bool), objGo V n r ns xs d t = some (x, r', d', t') → r'.length < r.length
  | 0, _, _, _, _, _, _, _, _, _, h => by cases h
  | n + 1, r, ns, xs, d, t, x, r', d', t', h => by
    unfold objGo at h
    split at h
    · cases hq : qt (sk r) with
      | none => rw [hq] at h; cases h
      | some q =>
        obtain ⟨nm, r1⟩ := q
        have h0 := sk_le r
        have h1 := qt_le hq
        have h2 := sk_le r1
        rw [hq] at h
        simp only at h
        split at h
        · cases hv : V d (t || (ns.map vbl).contains nm) ((sk r1).drop 1) with
          | none => rw [hv] at h; cases h
          | some q =>
            obtain ⟨y, r2, d1, t1⟩ := q
            have h3 := hV _ _ _ _ _ _ _ hv
            have h4 := sk_le r2
            rw [List.length_drop] at h3
            rw [hv] at h
            simp only at h
            split at h
            · injection h with h
              injection h with _ h
              injection h with h _
              rw [← h, List.length_drop]; omega
            · split at h
              · have h5 := objGo_less hV n _ _ _ _ _ _ _ _ _ h
                rw [List.length_drop] at h5; omega
              · cases h
        · cases h
    · cases h

theorem objP_less {V : Rdg} (hV : Less V) (n : Nat) (d t : Bool) (r : List UInt8) (x : JV) (r' : List UInt8) (d' t' : Bool) (h : objP V n d t r = some (x, r', d', t')) : r'.length < r.length := by
  unfold objP at h
  split at h
  · rename_i hh
    have h1 := hd_pos hh (by decide)
    have h2 := sk_le r
    injection h with h
    injection h with _ h
    injection h with h _
    rw [← h, List.length_drop]; omega
  · exact objGo_less hV n _ _ _ _ _ _ _ _ _ h

theorem wordP_less {word : List UInt8} (hw : 0 < word.length) {k : Int} {s : ByteArray} {d0 t0 : Bool} {l : List UInt8} {x : JV} {r : List UInt8} {d t : Bool} (hl : 0 < l.length) (h : wordP word k s d0 t0 l = some (x, r, d, t)) : r.length < l.length := by
  unfold wordP at h
  split at h
  · injection h with h
    injection h with _ h
    injection h with h _
    rw [← h, List.length_drop]; omega
  · cases h

theorem numOk_nil : numOk [] = false := by decide
theorem nd_le (l : List UInt8) : (nd l).length ≤ l.length := (List.dropWhile_sublist _).length_le
theorem numP_less {d0 t0 : Bool} {l : List UInt8} {x : JV} {r : List UInt8} {d t : Bool} (h : numP d0 t0 l = some (x, r, d, t)) : r.length < l.length := by
  unfold numP at h
  split at h
  · rename_i ho
    injection h with h
    injection h with _ h
    injection h with h _
    rw [← h]
    have h1 := nd_le l
    by_cases he : (nd l).length = l.length
    · unfold nt at ho
      rw [he, Nat.sub_self, List.take_zero, numOk_nil] at ho
      cases ho
    · omega
  · cases h

theorem pv_less : ∀ (f dep : Nat), Less (pv f dep)
  | 0, _, _, _, _, _, _, _, _, h => by cases h
  | f + 1, dep, d0, t0, l, x, r, d, t, h => by
    have ih := pv_less f (dep + 1)
    have h0 := sk_le l
    unfold pv at h
    split at h
    · have := listP_less ih _ _ _ _ _ _ _ _ h
      rw [List.length_drop] at this; omega
    · split at h
      · have := objP_less ih _ _ _ _ _ _ _ _ h
        rw [List.length_drop] at this; omega
      · split at h
        · simp only [Option.map_eq_some_iff] at h
          obtain ⟨⟨t', r'⟩, hq, e⟩ := h
          have := qt_le hq
          injection e with _ e
          injection e with e _
          rw [← e]; show r'.length < _; omega
        · split at h
          · rename_i hh
            have := wordP_less (by decide) (hd_pos hh (by decide)) h; omega
          · split at h
            · rename_i hh
              have := wordP_less (by decide) (hd_pos hh (by decide)) h; omega
            · split at h
              · rename_i hh
                have := wordP_less (by decide) (hd_pos hh (by decide)) h; omega
              · have := numP_less h; omega

end Go.Proofs.YtbcenaljaoejkaaDoor
