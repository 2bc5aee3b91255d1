/-
  Unlike values have unlike texts: a value's text, with what may stand behind it, says the value.
-/
import Derived.Test.YtiblffipfldgjaaGreatDoorText2
import Derived.Test.YtiblffipfldgjaaGreatDoorNumForms
namespace Go.Proofs.YtiblffipfldgjaaGreatDoor
open Go.RowKit

/-! ### Numbers -/
def numC (b : UInt8) : Bool := digU b || b == 45 || b == 46 || b == 43 || b == 101 || b == 69
theorem taken {p : UInt8 → Bool} : ∀ {l : List UInt8} {b : UInt8}, b ∈ l.takeWhile p → p b = true
  | [], _, h => by cases h
  | a :: t, b, h => by
    rw [List.takeWhile_cons] at h
    split at h
    · rcases List.mem_cons.1 h with e | e
      · subst e; assumption
      · exact taken e
    · cases h
theorem dd_all {l : List UInt8} (h : (dd l).all numC = true) : l.all numC = true := by
  unfold dd at h
  rw [← List.takeWhile_append_dropWhile (p := digU) (l := l), List.all_append, h, Bool.and_true, List.all_eq_true]
  intro b hb
  have := taken hb
  unfold numC
  rw [this]
  rfl
theorem trim_all {l : List UInt8} {c : UInt8} (hc : numC c = true) (h : (Lib.trimPrefix l [c]).all numC = true) : l.all numC = true := by
  unfold Lib.trimPrefix Lib.hasPrefix at h
  split at h
  · rename_i hp
    cases l with
    | nil => rfl
    | cons a t =>
      simp [List.isPrefixOf] at hp
      subst hp
      simp at h
      rw [List.all_cons, hc, Bool.true_and, List.all_eq_true]
      exact h
  · exact h
theorem num_all {l : List UInt8} (h : numOk l = true) : l.all numC = true := by
  unfold numOk at h
  simp only [Bool.and_eq_true] at h
  obtain ⟨_, ⟨⟨h1, h2⟩, h3⟩, h4⟩ := h
  have e0 : (numE l).1.all numC = true := by
    cases he : (numE l).1 with
    | nil => rfl
    | cons a t => rw [he] at h4; cases h4
  have e1 : (numF l).1.all numC = true := by
    unfold numE cutExponentP at e0
    split at e0
    · rename_i hb
      have h5 := dd_all e0
      cases hl : (numF l).1 with
      | nil => rfl
      | cons a t =>
        rw [hl] at hb h5
        have ha : numC a = true := by
          unfold beginB at hb
          simp at hb
          rcases hb with e | e <;> subst e <;> decide
        rw [List.all_cons, ha, Bool.true_and]
        unfold signCut at h5
        simp only [List.drop_succ_cons, List.drop_zero] at h5
        split at h5
        · rename_i hs
          cases t with
          | nil => rfl
          | cons c r =>
            have hc : numC c = true := by
              unfold beginB at hs
              simp at hs
              rcases hs with e | e <;> subst e <;> decide
            rw [List.all_cons, hc, Bool.true_and]
            simpa using h5
        · exact h5
    · exact e0
  have e2 : (numW l).1.all numC = true := by
    unfold numF cutFractionP at e1
    split at e1
    · exact trim_all (by decide) (dd_all e1)
    · exact e1
  unfold numW cutWholeP at e2
  split at e2
  · exact trim_all (c := 45) (by decide) (trim_all (by decide) e2)
  · exact trim_all (c := 45) (by decide) (dd_all e2)
theorem num_head {l : List UInt8} (h : numOk l = true) : ∃ a t, l = a :: t ∧ (digU a || a == 45) = true := by
  unfold numOk at h
  simp only [Bool.and_eq_true] at h
  obtain ⟨_, ⟨⟨h1, _⟩, _⟩, _⟩ := h
  cases l with
  | nil => exact absurd h1 (by decide)
  | cons a t =>
    refine ⟨a, t, rfl, ?_⟩
    by_cases ha : a = 45
    · subst ha; simp
    · have e : Lib.trimPrefix (a :: t) [45] = a :: t := by
        unfold Lib.trimPrefix Lib.hasPrefix
        rw [if_neg]
        simp [List.isPrefixOf]
        exact fun e => ha e.symm
      unfold numW at h1
      rw [e] at h1
      unfold cutWholeP at h1
      split at h1
      · rename_i hp
        simp [Lib.hasPrefix, List.isPrefixOf] at hp
        subst hp
        rfl
      · unfold cutDigitsP dd at h1
        simp only [decide_eq_true_eq] at h1
        cases hd : digU a with
        | true => rfl
        | false =>
          rw [List.dropWhile_cons, hd] at h1
          simp at h1

/-- What may stand behind a value. -/
def stopB (r : List UInt8) : Bool := match r with
  | [] => true
  | b :: _ => b == 44 || b == 93 || b == 125
theorem stop_not {b : UInt8} (h : (b == 44 || b == 93 || b == 125) = true) : numC b = false := by
  simp only [Bool.or_eq_true, beq_iff_eq] at h
  rcases h with (h | h) | h <;> subst h <;> decide
theorem run_cut : ∀ (l m r r' : List UInt8), l.all numC = true → m.all numC = true → stopB r = true → stopB r' = true → l ++ r = m ++ r' → l = m ∧ r = r'
  | [], [], r, r', _, _, _, _, e => ⟨rfl, by simpa using e⟩
  | [], b :: m, r, r', _, hm, hr, _, e => by
    exfalso
    simp only [List.nil_append, List.cons_append] at e
    subst e
    have := stop_not hr
    simp only [List.all_cons, Bool.and_eq_true] at hm
    rw [hm.1] at this
    cases this
  | a :: l, [], r, r', hl, _, _, hr', e => by
    exfalso
    simp only [List.nil_append, List.cons_append] at e
    subst e
    have := stop_not hr'
    simp only [List.all_cons, Bool.and_eq_true] at hl
    rw [hl.1] at this
    cases this
  | a :: l, b :: m, r, r', hl, hm, hr, hr', e => by
    simp only [List.cons_append, List.cons.injEq] at e
    simp only [List.all_cons, Bool.and_eq_true] at hl hm
    obtain ⟨e1, e2⟩ := run_cut l m r r' hl.2 hm.2 hr hr' e.2
    exact ⟨by rw [e.1, e1], e2⟩

/-! ### Texts in quotes -/
/-- Read back what was made of one byte. -/
def hexVI (b : UInt8) : Nat := if b.toNat < 58 then b.toNat - 48 else b.toNat - 87
def backC (c : UInt8) : Nat := if c = 98 then 8 else if c = 116 then 9 else if c = 110 then 10 else if c = 102 then 12 else if c = 114 then 13 else c.toNat
def unesc : List UInt8 → Nat × List UInt8
  | [] => (0, [])
  | a :: t => if a = 92 then (match t with
      | [] => (0, [])
      | c :: r => if c = 117 then (match r with
          | _ :: _ :: x :: y :: q => (hexVI x * 16 + hexVI y, q)
          | _ => (0, []))
        else (backC c, r))
    else (a.toNat, t)
def escOk (n : Nat) : Bool := match escB (UInt8.ofNat n) with
  | [a] => a != 92 && a != 34 && a.toNat == n
  | [a, c] => a == 92 && c != 117 && backC c == n
  | [a, c, _, _, x, y] => a == 92 && c == 117 && hexVI x * 16 + hexVI y == n
  | _ => false
theorem escOk_all : ∀ n : Fin 256, escOk n.val = true := by decide +kernel
theorem unesc_esc (b : UInt8) (t : List UInt8) : unesc (escB b ++ t) = (b.toNat, t) ∧ (escB b ++ t).head? ≠ some 34 := by
  have h := escOk_all ⟨b.toNat, b.toNat_lt⟩
  unfold escOk at h
  simp only [UInt8.ofNat_toNat] at h
  split at h
  · rename_i a e
    rw [e]
    simp only [Bool.and_eq_true, bne_iff_ne, ne_eq, beq_iff_eq] at h
    simp [unesc, h.1.1, h.1.2, h.2]
  · rename_i a c e
    rw [e]
    simp only [Bool.and_eq_true, bne_iff_ne, ne_eq, beq_iff_eq] at h
    obtain ⟨⟨h1, h2⟩, h3⟩ := h
    subst h1
    simp [unesc, h2, h3]
  · rename_i a c _ _ x y e
    rw [e]
    simp only [Bool.and_eq_true, beq_iff_eq] at h
    obtain ⟨⟨h1, h2⟩, h3⟩ := h
    subst h1 h2
    simp [unesc, h3]
  · cases h
theorem quote_cut : ∀ (l m r r' : List UInt8), quoteIn l ++ 34 :: r = quoteIn m ++ 34 :: r' → l = m ∧ r = r'
  | [], [], r, r', e => ⟨rfl, by simpa [quoteIn] using e⟩
  | [], b :: m, r, r', e => by
    exfalso
    have e' : 34 :: r = escB b ++ (quoteIn m ++ 34 :: r') := by simpa [quoteIn] using e
    have := (unesc_esc b (quoteIn m ++ 34 :: r')).2
    rw [← e'] at this
    exact this rfl
  | a :: l, [], r, r', e => by
    exfalso
    have e' : escB a ++ (quoteIn l ++ 34 :: r) = 34 :: r' := by simpa [quoteIn] using e
    have := (unesc_esc a (quoteIn l ++ 34 :: r)).2
    rw [e'] at this
    exact this rfl
  | a :: l, b :: m, r, r', e => by
    have e' : escB a ++ (quoteIn l ++ 34 :: r) = escB b ++ (quoteIn m ++ 34 :: r') := by simpa [quoteIn] using e
    have h1 := (unesc_esc a (quoteIn l ++ 34 :: r)).1
    rw [e', (unesc_esc b (quoteIn m ++ 34 :: r')).1] at h1
    injection h1 with h1 h2
    obtain ⟨e1, e2⟩ := quote_cut l m r r' h2.symm
    exact ⟨by rw [UInt8.toNat_inj.1 h1, e1], e2⟩
theorem quoteB_cut {l m r r' : List UInt8} (hl : Lib.validD l = true) (hm : Lib.validD m = true) (e : quoteB l ++ r = quoteB m ++ r') : l = m ∧ r = r' := by
  unfold quoteB at e
  rw [if_pos hl, if_pos hm] at e
  simp only [List.cons_append, List.append_assoc, List.cons.injEq, true_and, List.nil_append] at e
  exact quote_cut l m r r' e

/-! ### A value's first byte says its kind -/
def cls (a : UInt8) : Int := if a = 110 then 1 else if a = 116 ∨ a = 102 then 2 else if (digU a || a == 45) = true then 3 else if a = 34 then 5 else if a = 91 then 7 else if a = 123 then 8 else 0
theorem cls_num {a : UInt8} (h : (digU a || a == 45) = true) : cls a = 3 := by
  have h1 : a ≠ 110 := by rintro rfl; revert h; decide
  have h2 : ¬ (a = 116 ∨ a = 102) := by rintro (rfl | rfl) <;> revert h <;> decide
  unfold cls
  rw [if_neg h1, if_neg h2, if_pos h]
/-- The parts of a value that is right and no list. -/
theorem leaf_parts {d : Nat} {x : JV} (h7 : x.k ≠ 7) (h8 : x.k ≠ 8) (h : chkAt (d + 1) x = true) : x.ns = [] ∧ x.ps = [] ∧ leafB x.k (vbl x.s) = true := by
  have h' : (selfB x && x.ps.all (chkAt d)) = true := h
  rw [self_leaf h7 h8, Bool.and_eq_true, Bool.and_eq_true, Bool.and_eq_true] at h'
  exact ⟨List.isEmpty_iff.1 h'.1.1.1, List.isEmpty_iff.1 h'.1.1.2, h'.1.2⟩
theorem leaf_kind {k : Int} {l : List UInt8} (h : leafB k l = true) : (k = 1 ∧ l = []) ∨ (k = 2 ∧ (l = [116, 114, 117, 101] ∨ l = [102, 97, 108, 115, 101])) ∨ (k = 3 ∧ numOk l = true ∧ numWhole l = true) ∨ (k = 4 ∧ numOk l = true ∧ numWhole l = false) ∨ (k = 5 ∧ Lib.validD l = true) := by
  unfold leafB at h
  by_cases h1 : k = 1
  · rw [if_pos h1] at h; exact .inl ⟨h1, List.isEmpty_iff.1 h⟩
  rw [if_neg h1] at h
  by_cases h2 : k = 2
  · rw [if_pos h2] at h
    unfold boolB at h
    simp only [Bool.or_eq_true, beq_iff_eq] at h
    exact .inr (.inl ⟨h2, h⟩)
  rw [if_neg h2] at h
  by_cases h3 : k = 3
  · rw [if_pos h3, Bool.and_eq_true] at h; exact .inr (.inr (.inl ⟨h3, h⟩))
  rw [if_neg h3] at h
  by_cases h4 : k = 4
  · rw [if_pos h4, Bool.and_eq_true] at h; exact .inr (.inr (.inr (.inl ⟨h4, h.1, by simpa using h.2⟩)))
  rw [if_neg h4] at h
  by_cases h5 : k = 5
  · rw [if_pos h5] at h; exact .inr (.inr (.inr (.inr ⟨h5, h⟩)))
  rw [if_neg h5] at h
  cases h
theorem head_cls {d : Nat} {x : JV} (h : chkAt (d + 1) x = true) : ∃ a t, txt (d + 1) x = a :: t ∧ cls a = (if x.k = 4 then 3 else x.k) ∧ (x.k = 1 ∨ x.k = 2 ∨ x.k = 3 ∨ x.k = 4 ∨ x.k = 5 ∨ x.k = 7 ∨ x.k = 8) := by
  by_cases h7 : x.k = 7
  · exact ⟨91, _, by rw [txt_list h7]; rfl, by rw [h7]; decide, by omega⟩
  by_cases h8 : x.k = 8
  · exact ⟨123, _, by rw [txt_obj h8]; rfl, by rw [h8]; decide, by omega⟩
  obtain ⟨_, _, hl⟩ := leaf_parts h7 h8 h
  rcases leaf_kind hl with ⟨k, e⟩ | ⟨k, e⟩ | ⟨k, e, _⟩ | ⟨k, e, _⟩ | ⟨k, e⟩
  · exact ⟨110, _, by rw [txt_null k]; rfl, by rw [k]; decide, by omega⟩
  · rw [txt_leaf (by omega) (by omega) h7 h8, k]
    rcases e with e | e
    · exact ⟨_, _, e, by decide, by omega⟩
    · exact ⟨_, _, e, by decide, by omega⟩
  · rw [txt_leaf (by omega) (by omega) h7 h8, k]
    obtain ⟨a, t, e1, e2⟩ := num_head e
    exact ⟨a, t, e1, by rw [cls_num e2]; rfl, by omega⟩
  · rw [txt_leaf (by omega) (by omega) h7 h8, k]
    obtain ⟨a, t, e1, e2⟩ := num_head e
    exact ⟨a, t, e1, by rw [cls_num e2]; rfl, by omega⟩
  · rw [txt_str k, k]
    unfold quoteB
    rw [if_pos e]
    exact ⟨34, _, rfl, by decide, by omega⟩
theorem head_ok {d : Nat} {x : JV} (h : chkAt d x = true) : ∃ a t, txt d x = a :: t ∧ a ≠ 44 ∧ a ≠ 93 ∧ a ≠ 125 := by
  match d, h with
  | d + 1, h =>
    obtain ⟨a, t, e, hc, hk⟩ := head_cls h
    refine ⟨a, t, e, ?_, ?_, ?_⟩ <;> rintro rfl <;> (rw [show cls _ = 0 from by decide] at hc; split at hc <;> omega)

end Go.Proofs.YtiblffipfldgjaaGreatDoor
