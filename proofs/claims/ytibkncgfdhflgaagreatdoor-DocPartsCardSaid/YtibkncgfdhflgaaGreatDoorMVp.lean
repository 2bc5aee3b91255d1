/-
  Unlike values have unlike texts: a value's text, with what may stand behind it, says the value.
-/
import Derived.Test.YtibkncgfdhflgaaGreatDoorMText2
import Derived.Test.YtibkncgfdhflgaaGreatDoorMNumForms
import Derived.Test.YtibkncgfdhflgaaGreatDoorLx7
import Derived.Test.YtibkncgfdhflgaaGreatDoorMBack2
namespace Go.Proofs.YtibkncgfdhflgaaGreatDoor
open Go.RowKit

/-! ### Numbers -/
def numC (b : UInt8) : Bool := digU b || b == 45 || b == 46 || b == 43 || b == 101 || b == 69
theorem taken {p : UInt8 → Bool} : ∀ {l : List UInt8} {b : UInt8}, b ∈ l.takeWhile p → p b = true
  | [], _, h => by cases h
  | a :: t, b, h => by
    rw [List.takeWhile_cons] at h
    split at h
    · rcases List.mem_cons.1 h with e | e
      · subst e; assumption
      · exact taken e
    · cases h
theorem dd_all {l : List UInt8} (h : (dd l).all numC = true) : l.all numC = true := by
  unfold dd at h
  rw [← List.takeWhile_append_dropWhile (p := digU) (l := l), List.all_append, h, Bool.and_true, List.all_eq_true]
  intro b hb
  have := taken hb
  unfold numC
  rw [this]
  rfl
theorem trim_all {l : List UInt8} {c : UInt8} (hc : numC c = true) (h : (Lib.trimPrefix l [c]).all numC = true) : l.all numC = true := by
  unfold Lib.trimPrefix Lib.hasPrefix at h
  split at h
  · rename_i hp
    cases l with
    | nil => rfl
    | cons a t =>
      simp [List.isPrefixOf] at hp
      subst hp
      simp at h
      rw [List.all_cons, hc, Bool.true_and, List.all_eq_true]
      exact h
  · exact h
theorem num_all {l : List UInt8} (h : numOk l = true) : l.all numC = true := by
  unfold numOk at h
  simp only [Bool.and_eq_true] at h
  obtain ⟨_, ⟨⟨h1, h2⟩, h3⟩, h4⟩ := h
  have e0 : (numE l).1.all numC = true := by
    cases he : (numE l).1 with
    | nil => rfl
    | cons a t => rw [he] at h4; cases h4
  have e1 : (numF l).1.all numC = true := by
    unfold numE cutExponentP at e0
    split at e0
    · rename_i hb
      have h5 := dd_all e0
      cases hl : (numF l).1 with
      | nil => rfl
      | cons a t =>
        rw [hl] at hb h5
        have ha : numC a = true := by
          unfold beginB at hb
          simp at hb
          rcases hb with e | e <;> subst e <;> decide
        rw [List.all_cons, ha, Bool.true_and]
        unfold signCut at h5
        simp only [List.drop_succ_cons, List.drop_zero] at h5
        split at h5
        · rename_i hs
          cases t with
          | nil => rfl
          | cons c r =>
            have hc : numC c = true := by
              unfold beginB at hs
              simp at hs
              rcases hs with e | e <;> subst e <;> decide
            rw [List.all_cons, hc, Bool.true_and]
            simpa using h5
        · exact h5
    · exact e0
  have e2 : (numW l).1.all numC = true := by
    unfold numF cutFractionP at e1
    split at e1
    · exact trim_all (by decide) (dd_all e1)
    · exact e1
  unfold numW cutWholeP at e2
  split at e2
  · exact trim_all (c := 45) (by decide) (trim_all (by decide) e2)
  · exact trim_all (c := 45) (by decide) (dd_all e2)
theorem num_head {l : List UInt8} (h : numOk l = true) : ∃ a t, l = a :: t ∧ (digU a || a == 45) = true := by
  unfold numOk at h
  simp only [Bool.and_eq_true] at h
  obtain ⟨_, ⟨⟨h1, _⟩, _⟩, _⟩ := h
  cases l with
  | nil => exact absurd h1 (by decide)
  | cons a t =>
    refine ⟨a, t, rfl, ?_⟩
    by_cases ha : a = 45
    · subst ha; simp
    · have e : Lib.trimPrefix (a :: t) [45] = a :: t := by
        unfold Lib.trimPrefix Lib.hasPrefix
        rw [if_neg]
        simp [List.isPrefixOf]
        exact fun e => ha e.symm
      unfold numW at h1
      rw [e] at h1
      unfold cutWholeP at h1
      split at h1
      · rename_i hp
        simp [Lib.hasPrefix, List.isPrefixOf] at hp
        subst hp
        rfl
      · unfold cutDigitsP dd at h1
        simp only [decide_eq_true_eq] at h1
        cases hd : digU a with
        | true => rfl
        | false =>
          rw [List.dropWhile_cons, hd] at h1
          simp at h1

/-- What may stand behind a value. -/
def stopB (r : List UInt8) : Bool := match r with
  | [] => true
  | b :: _ => b == 44 || b == 93 || b == 125
theorem stop_not {b : UInt8} (h : (b == 44 || b == 93 || b == 125) = true) : numC b = false := by
  simp only [Bool.or_eq_true, beq_iff_eq] at h
  rcases h with (h | h) | h <;> subst h <;> decide
theorem run_cut : ∀ (l m r r' : List UInt8), l.all numC = true → m.all numC = true → stopB r = true → stopB r' = true → l ++ r = m ++ r' → l = m ∧ r = r'
  | [], [], r, r', _, _, _, _, e => ⟨rfl, by simpa using e⟩
  | [], b :: m, r, r', _, hm, hr, _, e => by
    exfalso
    simp only [List.nil_append, List.cons_append] at e
    subst e
    have := stop_not hr
    simp only [List.all_cons, Bool.and_eq_true] at hm
    rw [hm.1] at this
    cases this
  | a :: l, [], r, r', hl, _, _, hr', e => by
    exfalso
    simp only [List.nil_append, List.cons_append] at e
    subst e
    have := stop_not hr'
    simp only [List.all_cons, Bool.and_eq_true] at hl
    rw [hl.1] at this
    cases this
  | a :: l, b :: m, r, r', hl, hm, hr, hr', e => by
    simp only [List.cons_append, List.cons.injEq] at e
    simp only [List.all_cons, Bool.and_eq_true] at hl hm
    obtain ⟨e1, e2⟩ := run_cut l m r r' hl.2 hm.2 hr hr' e.2
    exact ⟨by rw [e.1, e1], e2⟩

/-! ### Texts in quotes -/
/-- Read back what was made of one byte. -/
def hexVI (b : UInt8) : Nat := if b.toNat < 58 then b.toNat - 48 else b.toNat - 87
def backC (c : UInt8) : Nat := if c = 98 then 8 else if c = 116 then 9 else if c = 110 then 10 else if c = 102 then 12 else if c = 114 then 13 else c.toNat
def unesc : List UInt8 → Nat × List UInt8
  | [] => (0, [])
  | a :: t => if a = 92 then (match t with
      | [] => (0, [])
      | c :: r => if c = 117 then (match r with
          | _ :: _ :: x :: y :: q => (hexVI x * 16 + hexVI y, q)
          | _ => (0, []))
        else (backC c, r))
    else (a.toNat, t)
def escOk (n : Nat) : Bool := match escB (UInt8.ofNat n) with
  | [a] => a != 92 && a != 34 && a.toNat == n
  | [a, c] => a == 92 && c != 117 && backC c == n
  | [a, c, _, _, x, y] => a == 92 && c == 117 && hexVI x * 16 + hexVI y == n
  | _ => false
theorem escOk_all : ∀ n : Fin 256, escOk n.val = true := by decide +kernel
theorem unesc_esc (b : UInt8) (t : List UInt8) : unesc (escB b ++ t) = (b.toNat, t) ∧ (escB b ++ t).head? ≠ some 34 := by
  have h := escOk_all ⟨b.toNat, b.toNat_lt⟩
  unfold escOk at h
  simp only [UInt8.ofNat_toNat] at h
  split at h
  · rename_i a e
    rw [e]
    simp only [Bool.and_eq_true, bne_iff_ne, ne_eq, beq_iff_eq] at h
    simp [unesc, h.1.1, h.1.2, h.2]
  · rename_i a c e
    rw [e]
    simp only [Bool.and_eq_true, bne_iff_ne, ne_eq, beq_iff_eq] at h
    obtain ⟨⟨h1, h2⟩, h3⟩ := h
    subst h1
    simp [unesc, h2, h3]
  · rename_i a c _ _ x y e
    rw [e]
    simp only [Bool.and_eq_true, beq_iff_eq] at h
    obtain ⟨⟨h1, h2⟩, h3⟩ := h
    subst h1 h2
    simp [unesc, h3]
  · cases h
theorem quote_cut : ∀ (l m r r' : List UInt8), quoteIn l ++ 34 :: r = quoteIn m ++ 34 :: r' → l = m ∧ r = r'
  | [], [], r, r', e => ⟨rfl, by simpa [quoteIn] using e⟩
  | [], b :: m, r, r', e => by
    exfalso
    have e' : 34 :: r = escB b ++ (quoteIn m ++ 34 :: r') := by simpa [quoteIn] using e
    have := (unesc_esc b (quoteIn m ++ 34 :: r')).2
    rw [← e'] at this
    exact this rfl
  | a :: l, [], r, r', e => by
    exfalso
    have e' : escB a ++ (quoteIn l ++ 34 :: r) = 34 :: r' := by simpa [quoteIn] using e
    have := (unesc_esc a (quoteIn l ++ 34 :: r)).2
    rw [e'] at this
    exact this rfl
  | a :: l, b :: m, r, r', e => by
    have e' : escB a ++ (quoteIn l ++ 34 :: r) = escB b ++ (quoteIn m ++ 34 :: r') := by simpa [quoteIn] using e
    have h1 := (unesc_esc a (quoteIn l ++ 34 :: r)).1
    rw [e', (unesc_esc b (quoteIn m ++ 34 :: r')).1] at h1
    injection h1 with h1 h2
    obtain ⟨e1, e2⟩ := quote_cut l m r r' h2.symm
    exact ⟨by rw [UInt8.toNat_inj.1 h1, e1], e2⟩
theorem quoteB_cut {l m r r' : List UInt8} (hl : Lib.validD l = true) (hm : Lib.validD m = true) (e : quoteB l ++ r = quoteB m ++ r') : l = m ∧ r = r' := by
  unfold quoteB at e
  rw [if_pos hl, if_pos hm] at e
  simp only [List.cons_append, List.append_assoc, List.cons.injEq, true_and, List.nil_append] at e
  exact quote_cut l m r r' e

/-! ### A value's first byte says its kind -/
def cls (a : UInt8) : Int := if a = 110 then 1 else if a = 116 ∨ a = 102 then 2 else if (digU a || a == 45) = true then 3 else if a = 34 then 5 else if a = 91 then 7 else if a = 123 then 8 else 0
theorem cls_num {a : UInt8} (h : (digU a || a == 45) = true) : cls a = 3 := by
  have h1 : a ≠ 110 := by rintro rfl; revert h; decide
  have h2 : ¬ (a = 116 ∨ a = 102) := by rintro (rfl | rfl) <;> revert h <;> decide
  unfold cls
  rw [if_neg h1, if_neg h2, if_pos h]
/-- The parts of a value that is right and no list. -/
theorem leaf_parts {d : Nat} {x : JV} (h7 : x.k ≠ 7) (h8 : x.k ≠ 8) (h : chkAt (d + 1) x = true) : x.ns = [] ∧ x.ps = [] ∧ leafB x.k (vbl x.s) = true := by
  have h' : (selfB x && x.ps.all (chkAt d)) = true := h
  rw [self_leaf h7 h8, Bool.and_eq_true, Bool.and_eq_true, Bool.and_eq_true] at h'
  exact ⟨List.isEmpty_iff.1 h'.1.1.1, List.isEmpty_iff.1 h'.1.1.2, h'.1.2⟩
theorem leaf_kind {k : Int} {l : List UInt8} (h : leafB k l = true) : (k = 1 ∧ l = []) ∨ (k = 2 ∧ (l = [116, 114, 117, 101] ∨ l = [102, 97, 108, 115, 101])) ∨ (k = 3 ∧ numOk l = true ∧ numWhole l = true) ∨ (k = 4 ∧ numOk l = true ∧ numWhole l = false) ∨ (k = 5 ∧ Lib.validD l = true) := by
  unfold leafB at h
  by_cases h1 : k = 1
  · rw [if_pos h1] at h; exact .inl ⟨h1, List.isEmpty_iff.1 h⟩
  rw [if_neg h1] at h
  by_cases h2 : k = 2
  · rw [if_pos h2] at h
    unfold boolB at h
    simp only [Bool.or_eq_true, beq_iff_eq] at h
    exact .inr (.inl ⟨h2, h⟩)
  rw [if_neg h2] at h
  by_cases h3 : k = 3
  · rw [if_pos h3, Bool.and_eq_true] at h; exact .inr (.inr (.inl ⟨h3, h⟩))
  rw [if_neg h3] at h
  by_cases h4 : k = 4
  · rw [if_pos h4, Bool.and_eq_true] at h; exact .inr (.inr (.inr (.inl ⟨h4, h.1, by simpa using h.2⟩)))
  rw [if_neg h4] at h
  by_cases h5 : k = 5
  · rw [if_pos h5] at h; exact .inr (.inr (.inr (.inr ⟨h5, h⟩)))
  rw [if_neg h5] at h
  cases h
theorem head_cls {d : Nat} {x : JV} (h : chkAt (d + 1) x = true) : ∃ a t, txt (d + 1) x = a :: t ∧ cls a = (if x.k = 4 then 3 else x.k) ∧ (x.k = 1 ∨ x.k = 2 ∨ x.k = 3 ∨ x.k = 4 ∨ x.k = 5 ∨ x.k = 7 ∨ x.k = 8) := by
  by_cases h7 : x.k = 7
  · exact ⟨91, _, by rw [txt_list h7]; rfl, by rw [h7]; decide, by omega⟩
  by_cases h8 : x.k = 8
  · exact ⟨123, _, by rw [txt_obj h8]; rfl, by rw [h8]; decide, by omega⟩
  obtain ⟨_, _, hl⟩ := leaf_parts h7 h8 h
  rcases leaf_kind hl with ⟨k, e⟩ | ⟨k, e⟩ | ⟨k, e, _⟩ | ⟨k, e, _⟩ | ⟨k, e⟩
  · exact ⟨110, _, by rw [txt_null k]; rfl, by rw [k]; decide, by omega⟩
  · rw [txt_leaf (by omega) (by omega) h7 h8, k]
    rcases e with e | e
    · exact ⟨_, _, e, by decide, by omega⟩
    · exact ⟨_, _, e, by decide, by omega⟩
  · rw [txt_leaf (by omega) (by omega) h7 h8, k]
    obtain ⟨a, t, e1, e2⟩ := num_head e
    exact ⟨a, t, e1, by rw [cls_num e2]; rfl, by omega⟩
  · rw [txt_leaf (by omega) (by omega) h7 h8, k]
    obtain ⟨a, t, e1, e2⟩ := num_head e
    exact ⟨a, t, e1, by rw [cls_num e2]; rfl, by omega⟩
  · rw [txt_str k, k]
    unfold quoteB
    rw [if_pos e]
    exact ⟨34, _, rfl, by decide, by omega⟩
theorem head_ok {d : Nat} {x : JV} (h : chkAt d x = true) : ∃ a t, txt d x = a :: t ∧ a ≠ 44 ∧ a ≠ 93 ∧ a ≠ 125 := by
  match d, h with
  | d + 1, h =>
    obtain ⟨a, t, e, hc, hk⟩ := head_cls h
    refine ⟨a, t, e, ?_, ?_, ?_⟩ <;> rintro rfl <;> (rw [show cls _ = 0 from by decide] at hc; split at hc <;> omega)

end Go.Proofs.YtibkncgfdhflgaaGreatDoor

/-
  Values of documents: what is read from tokens, what a value's text is, and that the text is read as the value.
-/
namespace Go.Proofs.YtibkncgfdhflgaaGreatDoor
open Go.RowKit

/-- A token without its place. -/
abbrev Sk := Nat × List UInt8
def strip (t : Tk) : Sk := (t.k, t.s)
def hdK (l : List Sk) : Sk := l.headD (0, [])
def sg (t : Sk) (c : UInt8) : Bool := t.1 == 5 && t.2 == [c]
def vx (k : Int) (s : List UInt8) : JV := .mk k ⟨s.toArray⟩ [] []
def vz : JV := .mk 0 ⟨#[]⟩ [] []
def nullS : List UInt8 := [110, 117, 108, 108]
def trueS : List UInt8 := [116, 114, 117, 101]
def falseS : List UInt8 := [102, 97, 108, 115, 101]
def wordV (s : List UInt8) : JV := if s = nullS then vx 1 [] else if s = trueS then vx 2 s else if s = falseS then vx 2 s else vx 6 s
def plainV (t : Sk) : JV := if t.1 = 1 then wordV t.2 else if t.1 = 2 then vx 3 t.2 else if t.1 = 3 then vx 4 t.2 else if t.1 = 4 then vx 5 t.2 else vz

/-- A value, the tokens behind it (or from the wrong one on), the error. -/
abbrev VR := JV × List Sk × Nat

def vListGo (V : List Sk → VR) : Nat → List Sk → List JV → VR
  | 0, l, _ => (vz, l, 2)
  | n + 1, l, xs => if sg (hdK l) 93 then (.mk 7 ⟨#[]⟩ [] xs, l.tail, 0) else
    if (V l).2.2 = 0 then vListGo V n (V l).2.1 (xs ++ [(V l).1]) else (vz, (V l).2.1, (V l).2.2)

def vObjGo (V : List Sk → VR) : Nat → List Sk → List ByteArray → List JV → VR
  | 0, l, _, _ => (vz, l, 2)
  | n + 1, l, ns, xs => if sg (hdK l) 125 then (.mk 8 ⟨#[]⟩ ns xs, l.tail, 0) else
    if (hdK l).1 = 1 then
      if sg (hdK l.tail) 58 then
        if (V l.tail.tail).2.2 = 0 then vObjGo V n (V l.tail.tail).2.1 (ns ++ [⟨(hdK l).2.toArray⟩]) (xs ++ [(V l.tail.tail).1]) else (vz, (V l.tail.tail).2.1, (V l.tail.tail).2.2)
      else (vz, l.tail, 2)
    else (vz, l, 2)

def varV (l : List Sk) : VR := if (hdK l).1 = 1 then (vx 9 (hdK l).2, l.tail, 0) else (vz, l, 2)

/-- A value with at most f levels. -/
def pvT : Nat → List Sk → VR
  | 0, l => if (plainV (hdK l)).k ≠ 0 then (plainV (hdK l), l.tail, 0) else if sg (hdK l) 36 then varV l.tail
    else if sg (hdK l) 91 || sg (hdK l) 123 then (vz, l, 4) else (vz, l, 2)
  | f + 1, l => if (plainV (hdK l)).k ≠ 0 then (plainV (hdK l), l.tail, 0) else if sg (hdK l) 36 then varV l.tail
    else if sg (hdK l) 91 then vListGo (pvT f) l.length l.tail [] else if sg (hdK l) 123 then vObjGo (pvT f) l.length l.tail [] [] else (vz, l, 2)

/-! ### which values may be read -/
def compV (x : JV) : Bool := x.k == 7 || x.k == 8
def leafOk (x : JV) : Bool :=
  if x.k = 1 then decide (x.s.size = 0) else if x.k = 3 then numOk (vbl x.s) && numWhole (vbl x.s) else if x.k = 4 then numOk (vbl x.s) && !numWhole (vbl x.s)
  else if x.k = 5 then Lib.validD (vbl x.s) else if x.k = 9 then nameB (vbl x.s) else if x.k = 2 then nameB (vbl x.s) && decide ((wordV (vbl x.s)).k = 2)
  else if x.k = 6 then nameB (vbl x.s) && decide ((wordV (vbl x.s)).k = 6) else false
def selfV (x : JV) : Bool :=
  if x.k = 7 then decide (x.s.size = 0) && decide (x.ns.length = 0)
  else if x.k = 8 then decide (x.s.size = 0) && decide (x.ns.length = x.ps.length) && x.ns.all (fun n => nameB (vbl n))
  else decide (x.ns.length = 0) && decide (x.ps.length = 0) && leafOk x
def rdOk : Nat → JV → Bool
  | 0, x => selfV x && !compV x
  | m + 1, x => selfV x && (!compV x || x.ps.all (rdOk m))

/-! ### their tokens, their texts -/
def leafK (x : JV) : List Sk :=
  if x.k = 1 then [(1, nullS)] else if x.k = 3 then [(2, vbl x.s)] else if x.k = 4 then [(3, vbl x.s)] else if x.k = 5 then [(4, vbl x.s)]
  else if x.k = 9 then [(5, [36]), (1, vbl x.s)] else [(1, vbl x.s)]
def ptk (f : JV → List Sk) (ob : Bool) : List ByteArray → List JV → List Sk
  | _, [] => []
  | ns, p :: r => (if ob then [(1, vbl (ns.headD ⟨#[]⟩)), (5, [58])] else []) ++ (f p ++ ptk f ob ns.tail r)
def vtk : Nat → JV → List Sk
  | 0, x => leafK x
  | m + 1, x => if x.k = 7 then (5, [91]) :: (ptk (vtk m) false x.ns x.ps ++ [(5, [93])]) else if x.k = 8 then (5, [123]) :: (ptk (vtk m) true x.ns x.ps ++ [(5, [125])]) else leafK x
def leafT (x : JV) : List UInt8 := if x.k = 1 then nullS else if x.k = 5 then quoteB (vbl x.s) else if x.k = 9 then 36 :: vbl x.s else vbl x.s
def vpts (f : JV → List UInt8) (ob : Bool) : Bool → List ByteArray → List JV → List UInt8
  | _, _, [] => []
  | fst, ns, p :: r => (if fst then [] else [32]) ++ ((if ob then vbl (ns.headD ⟨#[]⟩) ++ [58] else []) ++ (f p ++ vpts f ob false ns.tail r))
def vtxt : Nat → JV → List UInt8
  | 0, x => if compV x then [] else leafT x
  | m + 1, x => if x.k = 7 then [91] ++ (vpts (vtxt m) false true x.ns x.ps ++ [93]) else if x.k = 8 then [123] ++ (vpts (vtxt m) true true x.ns x.ps ++ [125]) else leafT x

/-! ### the text's tokens -/
def sepV (X : List UInt8) : Prop := ∀ c, X.head? = some c → nbU c = false ∧ c ≠ 34
theorem twV (p : UInt8 → Bool) (u X : List UInt8) (hu : ∀ b ∈ u, p b = true) (hX : ∀ c, X.head? = some c → p c = false) : (u ++ X).takeWhile p = u := by
  induction u with
  | nil =>
    cases X with
    | nil => rfl
    | cons c X => rw [List.nil_append, List.takeWhile_cons, if_neg (by rw [hX c rfl]; decide)]
  | cons b u ih => rw [List.cons_append, List.takeWhile_cons, if_pos (hu b (by simp)), ih (fun c hc => hu c (by simp [hc]))]
/-- A text that lex reads as these tokens, wherever it stands and whatever may stand behind it. -/
def Lexes (u : List UInt8) (ks : List Sk) : Prop := ∀ (X : List UInt8), sepV X → ∀ (a : Nat) (acc : List Tk), ∃ ts, ts.map strip = ks ∧ lxG a (u ++ X) acc = lxG (a + u.length) X (acc ++ ts)

theorem word_lexes {u : List UInt8} {b : UInt8} {r : List UInt8} {k : Nat} {s : List UInt8} (hu : u = b :: r) (hb : lxBlank b = false) (h35 : (b == 35) = false) (hw : ∀ X, sepV X → lxWord (u ++ X) = some (k, s, u.length)) : Lexes u [(k, s)] := by
  intro X hX a acc
  refine ⟨[⟨k, s, a⟩], rfl, ?_⟩
  have h := hw X hX
  subst hu
  rw [List.cons_append] at h ⊢
  rw [lxG_some a b (r ++ X) acc hb h35 h, ← List.cons_append, List.drop_left]

theorem nameGo_all : ∀ (l : List UInt8) (i : Nat), nameGo i l = true → ∀ b ∈ l, nmU b = true
  | [], _, _, _, h => by cases h
  | c :: r, i, h, b, hb => by
    simp only [nameGo, Bool.and_eq_true] at h
    rcases List.mem_cons.1 hb with rfl | hb
    · have h1 := h.1
      unfold nameOk at h1
      unfold nmU letU digU
      simp only [Bool.or_eq_true, Bool.and_eq_true] at h1 ⊢
      rcases h1 with h1 | h1
      · exact .inl h1
      · exact .inr h1.2
    · exact nameGo_all r (i + 1) h.2 b hb
theorem name_parts {l : List UInt8} (h : nameB l = true) : (∀ b ∈ l, nmU b = true) ∧ ∃ b r, l = b :: r ∧ letU b = true := by
  unfold nameB at h
  simp only [Bool.and_eq_true, decide_eq_true_eq] at h
  refine ⟨nameGo_all l 0 h.2, ?_⟩
  cases l with
  | nil => exact absurd h.1.1 (by decide)
  | cons b r =>
    refine ⟨b, r, rfl, ?_⟩
    have h1 := h.2
    simp only [nameGo, nameOk, Bool.and_eq_true] at h1
    have h2 := h1.1
    simp at h2
    exact h2
theorem let_blank {b : UInt8} (h : letU b = true) : lxBlank b = false ∧ (b == 35) = false := by
  unfold letU letB at h
  rw [decide_eq_true_eq] at h
  have e : ∀ c : UInt8, b = c → (b.toNat : Int) = c.toNat := fun c e => by rw [e]
  have n : ∀ c : UInt8, ¬ ((97 ≤ (c.toNat : Int) ∧ (c.toNat : Int) ≤ 122) ∨ (65 ≤ (c.toNat : Int) ∧ (c.toNat : Int) ≤ 90) ∨ (c.toNat : Int) = 95) → (b == c) = false := fun c hc => by
    rw [beq_eq_false_iff_ne]
    intro e
    subst e
    exact hc h
  refine ⟨?_, n 35 (by decide)⟩
  unfold lxBlank
  rw [n 32 (by decide), n 9 (by decide), n 10 (by decide), n 13 (by decide), n 44 (by decide)]
  rfl
theorem nm_sep {X : List UInt8} (h : sepV X) : ∀ c, X.head? = some c → nmU c = false := fun c hc => by
  have := (h c hc).1
  unfold nbU at this
  simp only [Bool.or_eq_false_iff] at this
  exact this.1.1.1
theorem name_lexes {l : List UInt8} (h : nameB l = true) : Lexes l [(1, l)] := by
  obtain ⟨ha, b, r, rfl, hb⟩ := name_parts h
  obtain ⟨h1, h2⟩ := let_blank hb
  refine word_lexes rfl h1 h2 fun X hX => ?_
  have ht : ((b :: r) ++ X).takeWhile nmU = b :: r := twV nmU (b :: r) X ha (nm_sep hX)
  rw [List.cons_append] at ht ⊢
  show (if letU b = true then lxName (b :: (r ++ X)) else _) = _
  rw [if_pos hb]
  unfold lxName
  rw [ht, if_pos h]
theorem numC_nb {b : UInt8} (h : numC b = true) : nbU b = true := by
  unfold numC at h
  unfold nbU nmU
  simp only [Bool.or_eq_true, beq_iff_eq] at h ⊢
  rcases h with ((((h | h) | h) | h) | h) | h
  · exact .inl (.inl (.inl (.inr h)))
  · exact .inr h
  · exact .inl (.inl (.inr h))
  · exact .inl (.inr h)
  · subst h; exact .inl (.inl (.inl (.inl (by decide))))
  · subst h; exact .inl (.inl (.inl (.inl (by decide))))
theorem numhead_not {b : UInt8} (h : (digU b || b == 45) = true) : letU b = false ∧ lxBlank b = false ∧ (b == 35) = false := by
  have hd : b = 45 ∨ (48 ≤ (b.toNat : Int) ∧ (b.toNat : Int) ≤ 57) := by
    rw [Bool.or_eq_true] at h
    rcases h with h | h
    · right; unfold digU digB at h; exact of_decide_eq_true h
    · left; exact beq_iff_eq.1 h
  rcases hd with rfl | hd
  · decide
  · have n : ∀ c : UInt8, ¬ (48 ≤ (c.toNat : Int) ∧ (c.toNat : Int) ≤ 57) → (b == c) = false := fun c hc => by
      rw [beq_eq_false_iff_ne]
      intro e
      subst e
      exact hc hd
    refine ⟨?_, ?_, n 35 (by decide)⟩
    · unfold letU letB
      rw [decide_eq_false_iff_not]
      omega
    · unfold lxBlank
      rw [n 32 (by decide), n 9 (by decide), n 10 (by decide), n 13 (by decide), n 44 (by decide)]
      rfl
theorem num_lexes {l : List UInt8} (h : numOk l = true) : Lexes l [(if numWhole l then 2 else 3, l)] := by
  obtain ⟨b, r, rfl, hb⟩ := num_head h
  obtain ⟨h0, h1, h2⟩ := numhead_not hb
  have ha : ∀ c ∈ b :: r, nbU c = true := fun c hc => numC_nb (List.all_eq_true.1 (num_all h) c hc)
  refine word_lexes rfl h1 h2 fun X hX => ?_
  have ht : ((b :: r) ++ X).takeWhile nbU = b :: r := twV nbU (b :: r) X ha (fun c hc => (hX c hc).1)
  rw [List.cons_append] at ht ⊢
  show (if letU b = true then lxName (b :: (r ++ X)) else if (b == 45 || digU b) = true then lxNum (b :: (r ++ X)) else _) = _
  rw [if_neg (by rw [h0]; decide), if_pos (by rw [Bool.or_comm]; exact hb)]
  unfold lxNum
  rw [ht, if_pos h]

theorem vhexD_ne (n : Nat) (h : n < 16) : hexD n ≠ 34 ∧ hexD n ≠ 92 ∧ lxEnd (hexD n) = false := by
  match n, h with
  | 0, _ | 1, _ | 2, _ | 3, _ | 4, _ | 5, _ | 6, _ | 7, _ | 8, _ | 9, _ | 10, _ | 11, _ | 12, _ | 13, _ | 14, _ | 15, _ => decide
  | n + 16, h => exact absurd h (by omega)
theorem qs_end (i : Nat) (r : List UInt8) : lxQs i (34 :: r) = i + 1 := by
  cases r with
  | nil => rfl
  | cons c r => show (if (34 : UInt8) = 34 then i + 1 else _) = _; rw [if_pos rfl]
theorem qs_plain {b : UInt8} (h1 : b ≠ 34) (h2 : b ≠ 92) (h3 : lxEnd b = false) (i : Nat) (c : UInt8) (z : List UInt8) : lxQs i (b :: c :: z) = lxQs (i + 1) (c :: z) := by
  show (if b = 34 then i + 1 else if b = 92 then lxQs (i + 2) z else if lxEnd b then 0 else lxQs (i + 1) (c :: z)) = _
  rw [if_neg h1, if_neg h2, if_neg (by rw [h3]; decide)]
theorem qs_esc (i : Nat) (c : UInt8) (z : List UInt8) : lxQs i (92 :: c :: z) = lxQs (i + 2) z := by
  show (if (92 : UInt8) = 34 then i + 1 else if (92 : UInt8) = 92 then lxQs (i + 2) z else _) = _
  rw [if_neg (by decide), if_pos rfl]
theorem qs_chunk (b c : UInt8) (i : Nat) (z : List UInt8) : lxQs i (escB b ++ c :: z) = lxQs (i + (escB b).length) (c :: z) := by
  unfold escB
  split
  · exact qs_esc _ _ _
  · rename_i hl
    split
    · have h1 := vhexD_ne (b.toNat / 16) (by have := b.toNat_lt; omega)
      have h2 := vhexD_ne (b.toNat % 16) (by omega)
      show lxQs i (92 :: 117 :: 48 :: 48 :: hexD (b.toNat / 16) :: hexD (b.toNat % 16) :: c :: z) = lxQs (i + 6) (c :: z)
      rw [qs_esc, qs_plain (by decide) (by decide) (by decide), qs_plain (by decide) (by decide) (by decide), qs_plain h1.1 h1.2.1 h1.2.2, qs_plain h2.1 h2.2.1 h2.2.2]
    · rename_i hb
      have hx : ¬ (b.toNat < 32) := fun e => hb (.inl e)
      refine qs_plain ?_ ?_ ?_ i c z
      · rintro rfl; exact hl (by decide)
      · rintro rfl; exact hl (by decide)
      · unfold lxEnd
        rw [Bool.or_eq_false_iff]
        constructor <;> (rw [beq_eq_false_iff_ne]; rintro rfl; exact hx (by decide))
theorem qs_in : ∀ (l : List UInt8) (i : Nat) (z : List UInt8), lxQs i (quoteIn l ++ 34 :: z) = i + (quoteIn l).length + 1
  | [], i, z => qs_end i z
  | b :: l, i, z => by
    have e : quoteIn (b :: l) = escB b ++ quoteIn l := rfl
    obtain ⟨c, t, ht⟩ : ∃ c t, quoteIn l ++ 34 :: z = c :: t := by
      cases hq : quoteIn l with
      | nil => exact ⟨34, z, rfl⟩
      | cons c t => exact ⟨c, t ++ 34 :: z, rfl⟩
    rw [e, List.append_assoc, ht, qs_chunk, ← ht, qs_in l _ z, List.length_append]
    omega
theorem esc_head (b : UInt8) : ∃ c t, escB b = c :: t ∧ c ≠ 34 := by
  unfold escB
  split
  · exact ⟨_, _, rfl, by decide⟩
  · rename_i hl
    split
    · exact ⟨_, _, rfl, by decide⟩
    · refine ⟨b, [], rfl, ?_⟩
      rintro rfl
      exact hl (by decide)
theorem vWord_cons (b : UInt8) (r : List UInt8) : lxWord (b :: r) = if letU b then lxName (b :: r) else if b == 45 || digU b then lxNum (b :: r) else if Lib.hasPrefix (b :: r) lxFence then lxBlock (b :: r) else if b == 34 then lxQuoted (b :: r) else lxSign (b :: r) := rfl
theorem str_lexes {l : List UInt8} (hv : Lib.validD l = true) : Lexes (quoteB l) [(4, l)] := by
  have e : quoteB l = 34 :: (quoteIn l ++ [34]) := by unfold quoteB; rw [if_pos hv]
  refine word_lexes e (by decide) (by decide) fun X hX => ?_
  have hlen : (quoteB l).length = (quoteIn l).length + 2 := by rw [e]; simp
  have hQ : lxQn (quoteB l ++ X) = (quoteB l).length := by
    rw [hlen, e]
    unfold lxQn
    show lxQs 1 ((quoteIn l ++ [34]) ++ X) = _
    rw [List.append_assoc]
    have := qs_in l 1 X
    rw [show [34] ++ X = 34 :: X from rfl, this]
    omega
  have hF : Lib.hasPrefix (quoteB l ++ X) lxFence = false := by
    rw [e]
    cases l with
    | nil =>
      show Lib.hasPrefix (34 :: 34 :: X) [34, 34, 34] = false
      cases X with
      | nil => rfl
      | cons c X =>
        have := (hX c rfl).2
        have h3 : ((34 : UInt8) == c) = false := by rw [beq_eq_false_iff_ne]; exact fun e => this e.symm
        simp [Lib.hasPrefix, List.isPrefixOf, h3]
    | cons b l =>
      obtain ⟨c, t, hc, hn⟩ := esc_head b
      have : quoteIn (b :: l) = c :: (t ++ quoteIn l) := by show escB b ++ quoteIn l = _; rw [hc]; rfl
      rw [this]
      have h3 : ((34 : UInt8) == c) = false := by rw [beq_eq_false_iff_ne]; exact fun e => hn e.symm
      simp [Lib.hasPrefix, lxFence, List.isPrefixOf, h3]
  have hU : lxQuoted (quoteB l ++ X) = some (4, l, (quoteB l).length) := by
    unfold lxQuoted
    rw [hQ, List.take_left, unq_quote l hv]
  have hne : quoteB l ++ X = 34 :: ((quoteIn l ++ [34]) ++ X) := by rw [e]; rfl
  rw [hne] at hF hU ⊢
  rw [vWord_cons, if_neg (by decide), if_neg (by decide), if_neg (by rw [hF]; decide), if_pos (by decide), hU]
def signB (c : UInt8) : Bool := c == 36 || c == 58 || c == 91 || c == 93 || c == 123 || c == 125 || c == 33
theorem sign_go {c : UInt8} (h : signB c = true) (X : List UInt8) (a : Nat) (acc : List Tk) : lxG a (c :: X) acc = lxG (a + 1) X (acc ++ [⟨5, [c], a⟩]) := by
  have hc : c = 36 ∨ c = 58 ∨ c = 91 ∨ c = 93 ∨ c = 123 ∨ c = 125 ∨ c = 33 := by
    unfold signB at h
    simp only [Bool.or_eq_true, beq_iff_eq] at h
    rcases h with (((((h | h) | h) | h) | h) | h) | h <;> simp [h]
  have hw : lxWord (c :: X) = some (5, [c], 1) := by
    rcases hc with rfl | rfl | rfl | rfl | rfl | rfl | rfl <;> rfl
  have hb : lxBlank c = false ∧ (c == 35) = false := by
    rcases hc with rfl | rfl | rfl | rfl | rfl | rfl | rfl <;> decide
  rw [lxG_some a c X acc hb.1 hb.2 hw]
  rfl

theorem sep_of {c : UInt8} (X : List UInt8) (h : nbU c = false) (h2 : c ≠ 34) : sepV (c :: X) := fun d hd => by
  simp at hd
  subst hd
  exact ⟨h, h2⟩

theorem leaf_lexes {x : JV} (h : leafOk x = true) : Lexes (leafT x) (leafK x) := by
  unfold leafOk at h
  unfold leafT leafK
  by_cases h1 : x.k = 1
  · rw [if_pos h1, if_pos h1]; exact name_lexes (by decide)
  rw [if_neg h1] at h
  rw [if_neg h1, if_neg h1]
  by_cases h3 : x.k = 3
  · rw [if_pos h3, Bool.and_eq_true] at h
    rw [if_neg (by omega), if_neg (by omega), if_pos h3]
    have := num_lexes h.1
    rw [h.2] at this
    exact this
  rw [if_neg h3] at h
  rw [if_neg h3]
  by_cases h4 : x.k = 4
  · rw [if_pos h4, Bool.and_eq_true, Bool.not_eq_true'] at h
    rw [if_neg (by omega), if_neg (by omega), if_pos h4]
    have := num_lexes h.1
    rw [h.2] at this
    exact this
  rw [if_neg h4] at h
  rw [if_neg h4]
  by_cases h5 : x.k = 5
  · rw [if_pos h5] at h
    rw [if_pos h5, if_pos h5]
    exact str_lexes h
  rw [if_neg h5] at h
  rw [if_neg h5, if_neg h5]
  by_cases h9 : x.k = 9
  · rw [if_pos h9] at h
    rw [if_pos h9, if_pos h9]
    intro X hX a acc
    obtain ⟨ts, e, hg⟩ := name_lexes h X hX (a + 1) (acc ++ [⟨5, [36], a⟩])
    refine ⟨⟨5, [36], a⟩ :: ts, by rw [List.map_cons, e]; rfl, ?_⟩
    rw [List.cons_append, sign_go (by decide), hg, List.length_cons, List.append_assoc]
    congr 1
    omega
  rw [if_neg h9] at h
  rw [if_neg h9, if_neg h9]
  by_cases h2 : x.k = 2
  · rw [if_pos h2, Bool.and_eq_true] at h
    exact name_lexes h.1
  rw [if_neg h2] at h
  by_cases h6 : x.k = 6
  · rw [if_pos h6, Bool.and_eq_true] at h
    exact name_lexes h.1
  rw [if_neg h6] at h
  cases h

theorem parts_lexes (f : JV → List UInt8) (g : JV → List Sk) (ob : Bool) (c : UInt8) (hc : nbU c = false) (hc2 : c ≠ 34) : ∀ (ps : List JV) (ns : List ByteArray) (fst : Bool), (∀ p ∈ ps, Lexes (f p) (g p)) → (ob = true → ns.length = ps.length ∧ ∀ n ∈ ns, nameB (vbl n) = true) → ∀ (X : List UInt8) (a : Nat) (acc : List Tk),
    ∃ ts, ts.map strip = ptk g ob ns ps ∧ lxG a (vpts f ob fst ns ps ++ c :: X) acc = lxG (a + (vpts f ob fst ns ps).length) (c :: X) (acc ++ ts)
  | [], _, _, _, _, X, a, acc => ⟨[], rfl, by rw [List.append_nil]; rfl⟩
  | p :: ps, ns, fst, hf, hn, X, a, acc => by
    have hsep : ∀ (ns' : List ByteArray), sepV (vpts f ob false ns' ps ++ c :: X) := fun ns' => by
      cases ps with
      | nil => exact sep_of X hc hc2
      | cons q qs => exact sep_of _ (by decide) (by decide)
    obtain ⟨a1, ha1⟩ : ∃ a1, lxG a ((if fst then [] else [32]) ++ ((if ob then vbl (ns.headD ⟨#[]⟩) ++ [58] else []) ++ (f p ++ vpts f ob false ns.tail ps)) ++ c :: X) acc = lxG a1 ((if ob then vbl (ns.headD ⟨#[]⟩) ++ [58] else []) ++ (f p ++ (vpts f ob false ns.tail ps ++ c :: X))) acc ∧ a1 = a + (if fst then ([] : List UInt8) else [32]).length := by
      cases fst with
      | true => exact ⟨a, by simp, rfl⟩
      | false =>
        refine ⟨a + 1, ?_, rfl⟩
        show lxG a (32 :: (((if ob then vbl (ns.headD ⟨#[]⟩) ++ [58] else []) ++ (f p ++ vpts f ob false ns.tail ps)) ++ c :: X)) acc = _
        rw [lxG_blank _ _ _ _ (by decide)]
        simp only [List.append_assoc]
    obtain ⟨ts1, e1, h1⟩ : ∃ ts1, ts1.map strip = (if ob then [(1, vbl (ns.headD ⟨#[]⟩)), (5, [58])] else []) ∧ lxG a1 ((if ob then vbl (ns.headD ⟨#[]⟩) ++ [58] else []) ++ (f p ++ (vpts f ob false ns.tail ps ++ c :: X))) acc = lxG (a1 + (if ob then vbl (ns.headD ⟨#[]⟩) ++ [58] else []).length) (f p ++ (vpts f ob false ns.tail ps ++ c :: X)) (acc ++ ts1) := by
      cases ob with
      | false => exact ⟨[], rfl, by rw [List.append_nil]; rfl⟩
      | true =>
        obtain ⟨hl, hall⟩ := hn rfl
        obtain ⟨n, ns', rfl⟩ : ∃ n ns', ns = n :: ns' := by
          cases ns with
          | nil => simp at hl
          | cons n ns' => exact ⟨n, ns', rfl⟩
        obtain ⟨t, et, ht⟩ := name_lexes (hall n (by simp)) (58 :: (f p ++ (vpts f true false ns' ps ++ c :: X))) (sep_of _ (by decide) (by decide)) a1 acc
        refine ⟨t ++ [⟨5, [58], a1 + (vbl n).length⟩], by rw [List.map_append, et]; rfl, ?_⟩
        show lxG a1 ((vbl n ++ [58]) ++ _) acc = lxG (a1 + (vbl n ++ [58]).length) _ _
        rw [List.append_assoc]
        show lxG a1 (vbl n ++ 58 :: (f p ++ (vpts f true false ns' ps ++ c :: X))) acc = _
        rw [ht, sign_go (by decide), List.length_append, List.append_assoc]
        rfl
    obtain ⟨ts2, e2, h2⟩ := hf p (by simp) _ (hsep ns.tail) (a1 + (if ob then vbl (ns.headD ⟨#[]⟩) ++ [58] else []).length) (acc ++ ts1)
    obtain ⟨ts3, e3, h3⟩ := parts_lexes f g ob c hc hc2 ps ns.tail false (fun q hq => hf q (by simp [hq])) (fun e => ⟨by have := (hn e).1; rw [List.length_tail, this]; rfl, fun n hm => (hn e).2 n (List.mem_of_mem_tail hm)⟩) X (a1 + (if ob then vbl (ns.headD ⟨#[]⟩) ++ [58] else []).length + (f p).length) (acc ++ ts1 ++ ts2)
    refine ⟨ts1 ++ (ts2 ++ ts3), by rw [List.map_append, List.map_append, e1, e2, e3]; rfl, ?_⟩
    show lxG a ((if fst then [] else [32]) ++ ((if ob then vbl (ns.headD ⟨#[]⟩) ++ [58] else []) ++ (f p ++ vpts f ob false ns.tail ps)) ++ c :: X) acc = lxG (a + ((if fst then [] else [32]) ++ ((if ob then vbl (ns.headD ⟨#[]⟩) ++ [58] else []) ++ (f p ++ vpts f ob false ns.tail ps))).length) _ _
    rw [ha1.1, h1, h2, h3, ha1.2]
    simp only [List.length_append, List.append_assoc]
    congr 1
    omega

theorem vs_list {x : JV} (hk : x.k = 7) (h : selfV x = true) : x.s.size = 0 ∧ x.ns.length = 0 := by
  unfold selfV at h
  rw [if_pos hk, Bool.and_eq_true, decide_eq_true_eq, decide_eq_true_eq] at h
  exact h
theorem vs_object {x : JV} (hk : x.k = 8) (h : selfV x = true) : x.s.size = 0 ∧ x.ns.length = x.ps.length ∧ ∀ n ∈ x.ns, nameB (vbl n) = true := by
  unfold selfV at h
  rw [if_neg (by omega), if_pos hk, Bool.and_eq_true, Bool.and_eq_true, decide_eq_true_eq, decide_eq_true_eq, List.all_eq_true] at h
  exact ⟨h.1.1, h.1.2, h.2⟩
theorem vs_leaf {x : JV} (h7 : x.k ≠ 7) (h8 : x.k ≠ 8) (h : selfV x = true) : x.ns.length = 0 ∧ x.ps.length = 0 ∧ leafOk x = true := by
  unfold selfV at h
  rw [if_neg h7, if_neg h8, Bool.and_eq_true, Bool.and_eq_true, decide_eq_true_eq, decide_eq_true_eq] at h
  exact ⟨h.1.1, h.1.2, h.2⟩
theorem comp_no {x : JV} (h7 : x.k ≠ 7) (h8 : x.k ≠ 8) : compV x = false := by
  unfold compV
  rw [Bool.or_eq_false_iff, beq_eq_false_iff_ne, beq_eq_false_iff_ne]
  exact ⟨h7, h8⟩
theorem rdOk_self {m : Nat} {x : JV} (h : rdOk m x = true) : selfV x = true := by
  cases m <;> (unfold rdOk at h; rw [Bool.and_eq_true] at h; exact h.1)
theorem rdOk_parts {m : Nat} {x : JV} (h : rdOk m x = true) (hc : x.k = 7 ∨ x.k = 8) : ∃ m', m = m' + 1 ∧ ∀ p ∈ x.ps, rdOk m' p = true := by
  have hk : compV x = true := by unfold compV; rcases hc with e | e <;> rw [e] <;> rfl
  cases m with
  | zero =>
    unfold rdOk at h
    rw [hk, Bool.and_eq_true] at h
    exact absurd h.2 (by simp)
  | succ m =>
    unfold rdOk at h
    rw [hk, Bool.and_eq_true, Bool.not_true, Bool.false_or, List.all_eq_true] at h
    exact ⟨m, rfl, h.2⟩
theorem vtxt_leaf {m : Nat} {x : JV} (h7 : x.k ≠ 7) (h8 : x.k ≠ 8) : vtxt m x = leafT x := by
  cases m with
  | zero => unfold vtxt; rw [if_neg (by rw [comp_no h7 h8]; decide)]
  | succ m => unfold vtxt; rw [if_neg h7, if_neg h8]
theorem vtk_leaf {m : Nat} {x : JV} (h7 : x.k ≠ 7) (h8 : x.k ≠ 8) : vtk m x = leafK x := by
  cases m with
  | zero => rfl
  | succ m => unfold vtk; rw [if_neg h7, if_neg h8]

theorem txt_lexes : ∀ (m : Nat) (x : JV), rdOk m x = true → Lexes (vtxt m x) (vtk m x) := by
  intro m
  induction m with
  | zero =>
    intro x h
    have h7 : x.k ≠ 7 := fun e => by obtain ⟨m', e', _⟩ := rdOk_parts h (.inl e); omega
    have h8 : x.k ≠ 8 := fun e => by obtain ⟨m', e', _⟩ := rdOk_parts h (.inr e); omega
    rw [vtxt_leaf h7 h8, vtk_leaf h7 h8]
    exact leaf_lexes (vs_leaf h7 h8 (rdOk_self h)).2.2
  | succ m ih =>
    intro x h
    by_cases h7 : x.k = 7
    · obtain ⟨m', e', hp⟩ := rdOk_parts h (.inl h7)
      obtain rfl : m = m' := by omega
      have eT : vtxt (m + 1) x = 91 :: (vpts (vtxt m) false true x.ns x.ps ++ [93]) := by unfold vtxt; rw [if_pos h7]; rfl
      have eK : vtk (m + 1) x = (5, [91]) :: (ptk (vtk m) false x.ns x.ps ++ [(5, [93])]) := by unfold vtk; rw [if_pos h7]
      rw [eT, eK]
      intro X hX a acc
      obtain ⟨ts, e, hg⟩ := parts_lexes (vtxt m) (vtk m) false 93 (by decide) (by decide) x.ps x.ns true (fun p hm => ih p (hp p hm)) (fun e => by cases e) X (a + 1) (acc ++ [⟨5, [91], a⟩])
      refine ⟨⟨5, [91], a⟩ :: (ts ++ [⟨5, [93], a + 1 + (vpts (vtxt m) false true x.ns x.ps).length⟩]), by rw [List.map_cons, List.map_append, e]; rfl, ?_⟩
      rw [List.cons_append, List.append_assoc, sign_go (by decide)]
      show lxG (a + 1) (vpts (vtxt m) false true x.ns x.ps ++ 93 :: X) _ = _
      rw [hg, sign_go (by decide)]
      simp only [List.length_cons, List.length_append, List.length_nil, List.append_assoc, List.cons_append, List.nil_append]
      congr 1
      omega
    by_cases h8 : x.k = 8
    · obtain ⟨m', e', hp⟩ := rdOk_parts h (.inr h8)
      obtain rfl : m = m' := by omega
      have hs := vs_object h8 (rdOk_self h)
      have eT : vtxt (m + 1) x = 123 :: (vpts (vtxt m) true true x.ns x.ps ++ [125]) := by unfold vtxt; rw [if_neg h7, if_pos h8]; rfl
      have eK : vtk (m + 1) x = (5, [123]) :: (ptk (vtk m) true x.ns x.ps ++ [(5, [125])]) := by unfold vtk; rw [if_neg h7, if_pos h8]
      rw [eT, eK]
      intro X hX a acc
      obtain ⟨ts, e, hg⟩ := parts_lexes (vtxt m) (vtk m) true 125 (by decide) (by decide) x.ps x.ns true (fun p hm => ih p (hp p hm)) (fun _ => hs.2) X (a + 1) (acc ++ [⟨5, [123], a⟩])
      refine ⟨⟨5, [123], a⟩ :: (ts ++ [⟨5, [125], a + 1 + (vpts (vtxt m) true true x.ns x.ps).length⟩]), by rw [List.map_cons, List.map_append, e]; rfl, ?_⟩
      rw [List.cons_append, List.append_assoc, sign_go (by decide)]
      show lxG (a + 1) (vpts (vtxt m) true true x.ns x.ps ++ 125 :: X) _ = _
      rw [hg, sign_go (by decide)]
      simp only [List.length_cons, List.length_append, List.length_nil, List.append_assoc, List.cons_append, List.nil_append]
      congr 1
      omega
    rw [vtxt_leaf h7 h8, vtk_leaf h7 h8]
    exact leaf_lexes (vs_leaf h7 h8 (rdOk_self h)).2.2

/-- What lex answers of a value's text. -/
theorem lex_txt {m : Nat} {x : JV} (h : rdOk m x = true) (hl : (vtxt m x).length ≤ 8000) : ∃ ts, ts.map strip = vtk m x ∧ lexP (vtxt m x) = (ts, 0, 0) := by
  obtain ⟨ts, e, hg⟩ := txt_lexes m x h [] (fun c hc => by simp at hc) 0 []
  refine ⟨ts, e, ?_⟩
  rw [lexP_G _ hl]
  rw [List.append_nil] at hg
  rw [hg, lxG_nil, List.nil_append]

/-! ### the tokens are read as the value -/
theorem JV.eta (x : JV) : x = .mk x.k x.s x.ns x.ps := by cases x; rfl
theorem size_nil {s : ByteArray} (h : s.size = 0) : s = ⟨#[]⟩ := by
  have : s.data.toList = [] := List.eq_nil_of_length_eq_zero h
  cases s with
  | mk d => exact congrArg ByteArray.mk (Array.toList_inj.1 this)
theorem word_is {s : ByteArray} {k : Int} (h1 : k ≠ 1) (e : (wordV (vbl s)).k = k) : wordV (vbl s) = .mk k s [] [] := by
  unfold wordV at e ⊢
  by_cases a1 : vbl s = nullS
  · rw [if_pos a1] at e; exact absurd e.symm h1
  rw [if_neg a1] at e ⊢
  by_cases a2 : vbl s = trueS
  · rw [if_pos a2] at e ⊢; have e' : (2 : Int) = k := e; subst e'; rfl
  rw [if_neg a2] at e ⊢
  by_cases a3 : vbl s = falseS
  · rw [if_pos a3] at e ⊢; have e' : (2 : Int) = k := e; subst e'; rfl
  rw [if_neg a3] at e ⊢
  have e' : (6 : Int) = k := e
  subst e'
  rfl
theorem leaf_read {x : JV} (h7 : x.k ≠ 7) (h8 : x.k ≠ 8) (h : selfV x = true) (f : Nat) (tl : List Sk) : pvT f (leafK x ++ tl) = (x, tl, 0) := by
  obtain ⟨hn, hp, hl⟩ := vs_leaf h7 h8 h
  have ex := JV.eta x
  rw [List.eq_nil_of_length_eq_zero hn, List.eq_nil_of_length_eq_zero hp] at ex
  have one : ∀ (t : Sk), plainV t = x → x.k ≠ 0 → pvT f ([t] ++ tl) = (x, tl, 0) := fun t ht hk => by
    have h0 : hdK ([t] ++ tl) = t := rfl
    have h1 : ([t] ++ tl).tail = tl := rfl
    cases f with
    | zero => unfold pvT; rw [h0, h1, ht, if_pos hk]
    | succ f => unfold pvT; rw [h0, h1, ht, if_pos hk]
  unfold leafOk at hl
  unfold leafK
  by_cases h1 : x.k = 1
  · rw [if_pos h1] at hl ⊢
    have h0 : x.s.size = 0 := of_decide_eq_true hl
    rw [h1, size_nil h0] at ex
    exact one (1, nullS) ex.symm (by omega)
  rw [if_neg h1] at hl ⊢
  by_cases h3 : x.k = 3
  · rw [if_pos h3]
    rw [h3] at ex
    exact one (2, vbl x.s) ex.symm (by omega)
  rw [if_neg h3] at hl ⊢
  by_cases h4 : x.k = 4
  · rw [if_pos h4]
    rw [h4] at ex
    exact one (3, vbl x.s) ex.symm (by omega)
  rw [if_neg h4] at hl ⊢
  by_cases h5 : x.k = 5
  · rw [if_pos h5]
    rw [h5] at ex
    exact one (4, vbl x.s) ex.symm (by omega)
  rw [if_neg h5] at hl ⊢
  by_cases h9 : x.k = 9
  · rw [if_pos h9]
    rw [h9] at ex
    have e9 : vx 9 (vbl x.s) = x := ex.symm
    have hv : varV ((1, vbl x.s) :: tl) = (x, tl, 0) := by
      unfold varV
      have h0 : hdK ((1, vbl x.s) :: tl) = (1, vbl x.s) := rfl
      rw [h0, if_pos rfl]
      show (vx 9 (vbl x.s), tl, 0) = _
      rw [e9]
    have h0 : hdK ([(5, [36]), (1, vbl x.s)] ++ tl) = (5, [36]) := rfl
    have h2 : ([(5, [36]), (1, vbl x.s)] ++ tl).tail = (1, vbl x.s) :: tl := rfl
    cases f with
    | zero => unfold pvT; rw [h0, h2, if_neg (show ¬ (plainV (5, [36])).k ≠ 0 by decide), if_pos (show sg (5, [36]) 36 = true by decide), hv]
    | succ f => unfold pvT; rw [h0, h2, if_neg (show ¬ (plainV (5, [36])).k ≠ 0 by decide), if_pos (show sg (5, [36]) 36 = true by decide), hv]
  rw [if_neg h9] at hl ⊢
  by_cases h2 : x.k = 2
  · rw [if_pos h2, Bool.and_eq_true, decide_eq_true_eq] at hl
    exact one (1, vbl x.s) ((word_is h1 (hl.2.trans h2.symm)).trans ex.symm) (by omega)
  rw [if_neg h2] at hl
  by_cases h6 : x.k = 6
  · rw [if_pos h6, Bool.and_eq_true, decide_eq_true_eq] at hl
    exact one (1, vbl x.s) ((word_is h1 (hl.2.trans h6.symm)).trans ex.symm) (by omega)
  rw [if_neg h6] at hl
  cases hl
theorem sg_k {k : Nat} {s : List UInt8} {c : UInt8} (h : k ≠ 5) : sg (k, s) c = false := by
  unfold sg
  rw [show ((k, s).1 == 5) = false from beq_eq_false_iff_ne.2 h]
  rfl
theorem vtk_head : ∀ (m : Nat) (x : JV), ∃ t r, vtk m x = t :: r ∧ sg t 93 = false ∧ sg t 125 = false := by
  have hL : ∀ x : JV, ∃ t r, leafK x = t :: r ∧ sg t 93 = false ∧ sg t 125 = false := fun x => by
    unfold leafK
    split
    · exact ⟨_, _, rfl, by decide, by decide⟩
    split
    · exact ⟨_, _, rfl, sg_k (by decide), sg_k (by decide)⟩
    split
    · exact ⟨_, _, rfl, sg_k (by decide), sg_k (by decide)⟩
    split
    · exact ⟨_, _, rfl, sg_k (by decide), sg_k (by decide)⟩
    split
    · exact ⟨_, _, rfl, by decide, by decide⟩
    · exact ⟨_, _, rfl, sg_k (by decide), sg_k (by decide)⟩
  intro m x
  cases m with
  | zero => exact hL x
  | succ m =>
    unfold vtk
    split
    · exact ⟨_, _, rfl, by decide, by decide⟩
    split
    · exact ⟨_, _, rfl, by decide, by decide⟩
    · exact hL x
theorem list_reads (V : List Sk → VR) (g : JV → List Sk) (hg : ∀ x, ∃ t r, g x = t :: r ∧ sg t 93 = false ∧ sg t 125 = false) : ∀ (ps : List JV) (n : Nat) (xs : List JV) (ns : List ByteArray) (tl : List Sk), (∀ p ∈ ps, ∀ tl, V (g p ++ tl) = (p, tl, 0)) → ps.length < n →
    vListGo V n (ptk g false ns ps ++ (5, [93]) :: tl) xs = (.mk 7 ⟨#[]⟩ [] (xs ++ ps), tl, 0)
  | [], n, xs, ns, tl, _, hn => by
    obtain ⟨n, rfl⟩ : ∃ n', n = n' + 1 := ⟨n - 1, by simp at hn; omega⟩
    show vListGo V (n + 1) ((5, [93]) :: tl) xs = _
    unfold vListGo
    rw [if_pos (by rfl), List.append_nil]
    rfl
  | p :: ps, n, xs, ns, tl, hV, hn => by
    obtain ⟨n, rfl⟩ : ∃ n', n = n' + 1 := ⟨n - 1, by simp at hn; omega⟩
    have e : ptk g false ns (p :: ps) ++ (5, [93]) :: tl = g p ++ (ptk g false ns.tail ps ++ (5, [93]) :: tl) := by
      show ([] ++ (g p ++ ptk g false ns.tail ps)) ++ _ = _
      simp
    rw [e]
    have hv := hV p (by simp) (ptk g false ns.tail ps ++ (5, [93]) :: tl)
    obtain ⟨t, r, ht, h1, _⟩ := hg p
    have hh : sg (hdK (g p ++ (ptk g false ns.tail ps ++ (5, [93]) :: tl))) 93 = false := by rw [ht]; exact h1
    unfold vListGo
    rw [if_neg (by rw [hh]; decide), hv, if_pos rfl]
    rw [list_reads V g hg ps n (xs ++ [p]) ns.tail tl (fun q hq => hV q (by simp [hq])) (by simp at hn; omega), List.append_assoc]
    rfl
theorem vObj_step (V : List Sk → VR) (n : Nat) (t u : Sk) (r : List Sk) (ns : List ByteArray) (xs : List JV) (h1 : sg t 125 = false) (h2 : t.1 = 1) (h3 : sg u 58 = true) {x : JV} {l : List Sk} (hv : V r = (x, l, 0)) :
    vObjGo V (n + 1) (t :: u :: r) ns xs = vObjGo V n l (ns ++ [⟨t.2.toArray⟩]) (xs ++ [x]) := by
  have e1 : hdK (t :: u :: r) = t := rfl
  have e2 : (t :: u :: r).tail = u :: r := rfl
  have e3 : hdK (u :: r) = u := rfl
  have e4 : (u :: r).tail = r := rfl
  conv => lhs; unfold vObjGo
  rw [e1, e2, e3, e4, if_neg (by rw [h1]; decide), if_pos h2, if_pos h3, hv, if_pos rfl]
theorem obj_reads (V : List Sk → VR) (g : JV → List Sk) : ∀ (ps : List JV) (n : Nat) (ms : List ByteArray) (xs : List JV) (ns : List ByteArray) (tl : List Sk), (∀ p ∈ ps, ∀ tl, V (g p ++ tl) = (p, tl, 0)) → ps.length < n → ns.length = ps.length →
    vObjGo V n (ptk g true ns ps ++ (5, [125]) :: tl) ms xs = (.mk 8 ⟨#[]⟩ (ms ++ ns) (xs ++ ps), tl, 0)
  | [], n, ms, xs, ns, tl, _, hn, hl => by
    obtain ⟨n, rfl⟩ : ∃ n', n = n' + 1 := ⟨n - 1, by simp at hn; omega⟩
    obtain rfl : ns = [] := List.eq_nil_of_length_eq_zero hl
    show vObjGo V (n + 1) ((5, [125]) :: tl) ms xs = _
    unfold vObjGo
    rw [if_pos (by rfl), List.append_nil, List.append_nil]
    rfl
  | p :: ps, n, ms, xs, [], tl, _, _, hl => by simp at hl
  | p :: ps, n, ms, xs, nm :: ns, tl, hV, hn, hl => by
    obtain ⟨n, rfl⟩ : ∃ n', n = n' + 1 := ⟨n - 1, by simp at hn; omega⟩
    have e : ptk g true (nm :: ns) (p :: ps) ++ (5, [125]) :: tl = (1, vbl nm) :: (5, [58]) :: (g p ++ (ptk g true ns ps ++ (5, [125]) :: tl)) := by
      show ([(1, vbl nm), (5, [58])] ++ (g p ++ ptk g true ns ps)) ++ _ = _
      simp
    rw [e]
    have hv := hV p (by simp) (ptk g true ns ps ++ (5, [125]) :: tl)
    rw [vObj_step V n (1, vbl nm) (5, [58]) _ ms xs (sg_k (by decide)) rfl (by decide) hv]
    have hb : (⟨((1, vbl nm) : Sk).2.toArray⟩ : ByteArray) = nm := rfl
    rw [hb, obj_reads V g ps n (ms ++ [nm]) (xs ++ [p]) ns tl (fun q hq => hV q (by simp [hq])) (by simp at hn; omega) (by simpa using hl), List.append_assoc, List.append_assoc]
    rfl
theorem ptk_len (g : JV → List Sk) (hg : ∀ x, ∃ t r, g x = t :: r ∧ sg t 93 = false ∧ sg t 125 = false) (ob : Bool) : ∀ (ps : List JV) (ns : List ByteArray), ps.length ≤ (ptk g ob ns ps).length
  | [], _ => Nat.zero_le _
  | p :: ps, ns => by
    obtain ⟨t, r, ht, _⟩ := hg p
    have := ptk_len g hg ob ps ns.tail
    show ps.length + 1 ≤ ((if ob then [(1, vbl (ns.headD ⟨#[]⟩)), (5, [58])] else []) ++ (g p ++ ptk g ob ns.tail ps)).length
    rw [List.length_append, List.length_append, ht, List.length_cons]
    omega
theorem pvT_list (f : Nat) (r : List Sk) : pvT (f + 1) ((5, [91]) :: r) = vListGo (pvT f) (r.length + 1) r [] := by
  have h0 : hdK ((5, [91]) :: r) = (5, [91]) := rfl
  have h1 : (((5, [91]) : Sk) :: r).tail = r := rfl
  have h2 : (((5, [91]) : Sk) :: r).length = r.length + 1 := rfl
  conv => lhs; unfold pvT
  rw [h0, h1, h2, if_neg (show ¬ (plainV (5, [91])).k ≠ 0 by decide), if_neg (show ¬ sg (5, [91]) 36 = true by decide), if_pos (show sg (5, [91]) 91 = true by decide)]
theorem pvT_obj (f : Nat) (r : List Sk) : pvT (f + 1) ((5, [123]) :: r) = vObjGo (pvT f) (r.length + 1) r [] [] := by
  have h0 : hdK ((5, [123]) :: r) = (5, [123]) := rfl
  have h1 : (((5, [123]) : Sk) :: r).tail = r := rfl
  have h2 : (((5, [123]) : Sk) :: r).length = r.length + 1 := rfl
  conv => lhs; unfold pvT
  rw [h0, h1, h2, if_neg (show ¬ (plainV (5, [123])).k ≠ 0 by decide), if_neg (show ¬ sg (5, [123]) 36 = true by decide), if_neg (show ¬ sg (5, [123]) 91 = true by decide), if_pos (show sg (5, [123]) 123 = true by decide)]
theorem txt_reads : ∀ (m : Nat) (x : JV), rdOk m x = true → ∀ (f : Nat), m ≤ f → ∀ tl, pvT f (vtk m x ++ tl) = (x, tl, 0) := by
  intro m
  induction m with
  | zero =>
    intro x h f hf tl
    have h7 : x.k ≠ 7 := fun e => by obtain ⟨m', e', _⟩ := rdOk_parts h (.inl e); omega
    have h8 : x.k ≠ 8 := fun e => by obtain ⟨m', e', _⟩ := rdOk_parts h (.inr e); omega
    exact leaf_read h7 h8 (rdOk_self h) f tl
  | succ m ih =>
    intro x h f hf tl
    obtain ⟨f, rfl⟩ : ∃ f', f = f' + 1 := ⟨f - 1, by omega⟩
    by_cases h7 : x.k = 7
    · obtain ⟨m', e', hp⟩ := rdOk_parts h (.inl h7)
      obtain rfl : m = m' := by omega
      have hs := vs_list h7 (rdOk_self h)
      have eK : vtk (m + 1) x ++ tl = (5, [91]) :: (ptk (vtk m) false x.ns x.ps ++ (5, [93]) :: tl) := by unfold vtk; rw [if_pos h7]; simp
      rw [eK, pvT_list]
      have hl := ptk_len (vtk m) (vtk_head m) false x.ps x.ns
      rw [list_reads (pvT f) (vtk m) (vtk_head m) x.ps _ [] x.ns tl (fun p hm tl => ih p (hp p hm) f (by omega) tl) (by simp only [List.length_cons, List.length_append]; omega), List.nil_append]
      have ex := JV.eta x
      rw [h7, size_nil hs.1, List.eq_nil_of_length_eq_zero hs.2] at ex
      rw [← ex]
    by_cases h8 : x.k = 8
    · obtain ⟨m', e', hp⟩ := rdOk_parts h (.inr h8)
      obtain rfl : m = m' := by omega
      have hs := vs_object h8 (rdOk_self h)
      have eK : vtk (m + 1) x ++ tl = (5, [123]) :: (ptk (vtk m) true x.ns x.ps ++ (5, [125]) :: tl) := by unfold vtk; rw [if_neg h7, if_pos h8]; simp
      rw [eK, pvT_obj]
      have hl := ptk_len (vtk m) (vtk_head m) true x.ps x.ns
      rw [obj_reads (pvT f) (vtk m) x.ps _ [] [] x.ns tl (fun p hm tl => ih p (hp p hm) f (by omega) tl) (by simp only [List.length_cons, List.length_append]; omega) hs.2.1, List.nil_append, List.nil_append]
      have ex := JV.eta x
      rw [h8, size_nil hs.1] at ex
      rw [← ex]
    rw [vtk_leaf h7 h8]
    exact leaf_read h7 h8 (rdOk_self h) (f + 1) tl

/-! ### a value that is read is ahead of less -/
theorem list_less (V : List Sk → VR) (hV : ∀ l, (V l).2.2 = 0 → (V l).2.1.length < l.length) : ∀ (n : Nat) (l : List Sk) (xs : List JV), (vListGo V n l xs).2.2 = 0 → (vListGo V n l xs).2.1.length < l.length
  | 0, _, _, h => absurd h (Nat.succ_ne_zero 1)
  | n + 1, l, xs, h => by
    unfold vListGo at h ⊢
    split
    · rename_i hs
      cases l with
      | nil => exact absurd hs (by decide)
      | cons t r => show r.length < r.length + 1; omega
    · rename_i hs
      rw [if_neg hs] at h
      split
      · rename_i hv
        rw [if_pos hv] at h
        have h1 := hV l hv
        have h2 := list_less V hV n _ _ h
        omega
      · rename_i hv
        rw [if_neg hv] at h
        exact absurd h hv
theorem obj_less (V : List Sk → VR) (hV : ∀ l, (V l).2.2 = 0 → (V l).2.1.length < l.length) : ∀ (n : Nat) (l : List Sk) (ns : List ByteArray) (xs : List JV), (vObjGo V n l ns xs).2.2 = 0 → (vObjGo V n l ns xs).2.1.length < l.length
  | 0, _, _, _, h => absurd h (Nat.succ_ne_zero 1)
  | n + 1, l, ns, xs, h => by
    unfold vObjGo at h ⊢
    split
    · rename_i hs
      cases l with
      | nil => exact absurd hs (by decide)
      | cons t r => show r.length < r.length + 1; omega
    · rename_i hs
      rw [if_neg hs] at h
      split
      · rename_i h1
        rw [if_pos h1] at h
        split
        · rename_i h2
          rw [if_pos h2] at h
          split
          · rename_i hv
            rw [if_pos hv] at h
            have h3 := hV _ hv
            have h4 := obj_less V hV n _ _ _ h
            have h5 : l.tail.tail.length ≤ l.length := by rw [List.length_tail, List.length_tail]; omega
            omega
          · rename_i hv
            rw [if_neg hv] at h
            exact absurd h hv
        · rename_i h2
          rw [if_neg h2] at h
          exact absurd h (Nat.succ_ne_zero _)
      · rename_i h1
        rw [if_neg h1] at h
        exact absurd h (Nat.succ_ne_zero _)
theorem plain_ne {l : List Sk} (h : (plainV (hdK l)).k ≠ 0) : l.tail.length < l.length := by
  cases l with
  | nil => exact absurd rfl h
  | cons t r => show r.length < r.length + 1; omega
theorem sg_ne {l : List Sk} {c : UInt8} (h : sg (hdK l) c = true) : l.tail.length < l.length := by
  cases l with
  | nil => exact absurd h (by unfold sg hdK; simp)
  | cons t r => show r.length < r.length + 1; omega
theorem var_le (l : List Sk) : (varV l).2.1.length ≤ l.length := by
  unfold varV
  split
  · show l.tail.length ≤ _; rw [List.length_tail]; omega
  · exact Nat.le_refl _
theorem pvT_less : ∀ (f : Nat) (l : List Sk), (pvT f l).2.2 = 0 → (pvT f l).2.1.length < l.length
  | 0, l, h => by
    unfold pvT at h ⊢
    split
    · rename_i h1; exact plain_ne h1
    · rename_i h1
      rw [if_neg h1] at h
      split
      · rename_i h2; have := sg_ne h2; have := var_le l.tail; omega
      · rename_i h2
        rw [if_neg h2] at h
        split at h <;> exact absurd h (Nat.succ_ne_zero _)
  | f + 1, l, h => by
    unfold pvT at h ⊢
    split
    · rename_i h1; exact plain_ne h1
    · rename_i h1
      rw [if_neg h1] at h
      split
      · rename_i h2; have := sg_ne h2; have := var_le l.tail; omega
      · rename_i h2
        rw [if_neg h2] at h
        split
        · rename_i h3
          rw [if_pos h3] at h
          have := sg_ne h3
          have := list_less (pvT f) (pvT_less f) _ _ _ h
          omega
        · rename_i h3
          rw [if_neg h3] at h
          split
          · rename_i h4
            rw [if_pos h4] at h
            have := sg_ne h4
            have := obj_less (pvT f) (pvT_less f) _ _ _ _ h
            omega
          · rename_i h4
            rw [if_neg h4] at h
            exact absurd h (Nat.succ_ne_zero _)

end Go.Proofs.YtibkncgfdhflgaaGreatDoor
