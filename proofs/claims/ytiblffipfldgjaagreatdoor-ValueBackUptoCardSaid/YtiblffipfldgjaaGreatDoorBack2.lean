/-
  Plain facts: Unquote of Quote is the text; a quoted text that is cut is none.
-/
import Derived.Test.YtiblffipfldgjaaGreatDoorBack
namespace Go.Proofs.YtiblffipfldgjaaGreatDoor
open Go.Lib

theorem ok_head {l : List UInt8} (hne : l ≠ []) (hv : validD l = true) : badAt l = false ∧ validD (l.drop (decodeL l).2) = true := by
  have hb : badAt l = false := by
    cases hx : badAt l with
    | false => rfl
    | true => rw [validD_bad l hne hx] at hv; cases hv
  exact ⟨hb, by rw [← validD_go l hne hb]; exact hv⟩

theorem res_back : ∀ (n : Nat) (l o : List UInt8) (k : Int), l.length ≤ n → validD l = true → res (St.clean o k) (quoteIn l) = some (o ++ l)
  | 0, l, o, k, hn, _ => by
    have : l = [] := List.eq_nil_of_length_eq_zero (by omega)
    subst this
    rw [List.append_nil]
    rfl
  | n + 1, l, o, k, hn, hv => by
    by_cases hne : l = []
    · subst hne
      rw [List.append_nil]
      rfl
    · obtain ⟨hb, hv2⟩ := ok_head hne hv
      have hw := decodeL_width l
      have hl := decodeL_le l hne
      have hx : ¬ ((decodeL l).1 = 65533 ∧ (decodeL l).2 = 1) := by simpa [badAt] using hb
      obtain ⟨k', e⟩ := res_chunk l o (quoteIn (l.drop (decodeL l).2)) k hne hb
      rw [esc_step l hne hb, e, res_back n _ _ _ (by rw [List.length_drop]; omega) hv2, encode_decode l hne hx, List.append_assoc, List.take_append_drop]

theorem hexD_low (n : Nat) : (hexD n).toNat < 128 ∧ hexD n ≠ 34 ∨ 16 ≤ n := by
  by_cases h : n < 16
  · left
    have h' : n = 0 ∨ n = 1 ∨ n = 2 ∨ n = 3 ∨ n = 4 ∨ n = 5 ∨ n = 6 ∨ n = 7 ∨ n = 8 ∨ n = 9 ∨ n = 10 ∨ n = 11 ∨ n = 12 ∨ n = 13 ∨ n = 14 ∨ n = 15 := by omega
    rcases h' with rfl | rfl | rfl | rfl | rfl | rfl | rfl | rfl | rfl | rfl | rfl | rfl | rfl | rfl | rfl | rfl <;> decide
  · right; omega

theorem let_low {c : Int} (h : letOf c ≠ 0) : (UInt8.ofNat (letOf c).toNat).toNat < 128 ∧ (UInt8.ofNat (letOf c).toNat = 34 → c = 34) := by
  rcases let_cases h with rfl | rfl | rfl | rfl | rfl | rfl | rfl <;> decide

theorem validD_low (l : List UInt8) (h : ∀ b ∈ l, b.toNat < 128) : validD l = true := by
  rw [validD_ascii l.length l (by rw [List.take_length]; exact h), List.drop_length]
  rfl

/-- What a rune is quoted as is right UTF-8. -/
theorem valid_chunk (l : List UInt8) (hne : l ≠ []) (hb : badAt l = false) : validD (escR (decodeL l).1) = true := by
  have hr := decodeL_rune_app l [] hne hb
  rw [List.append_nil] at hr
  have hlen := encodeRune_len l hne hb
  have hw := decodeL_width l
  generalize hc : ((decodeL l).1 : Int) = c at hr hlen
  have hc0 : 0 ≤ c := by omega
  unfold escR
  by_cases hl : letOf c = 0
  · rw [if_neg (by simpa using hl)]
    by_cases hx : c < 32 ∨ c = 127
    · rw [if_pos hx]
      have d1 := hexD_low (c / 16).toNat
      have d2 := hexD_low (c % 16).toNat
      apply validD_low
      intro b hb
      simp at hb
      rcases hb with rfl | rfl | rfl | rfl | rfl
      · decide
      · decide
      · decide
      · rcases d1 with d1 | d1
        · exact d1.1
        · omega
      · rcases d2 with d2 | d2
        · exact d2.1
        · omega
    · rw [if_neg hx]
      have hne2 : encodeRune c ≠ [] := by
        intro e
        rw [e] at hlen
        simp at hlen
        omega
      rw [validD_go _ hne2 (by unfold badAt; rw [hr]; exact hb), hr, ← hlen, List.drop_length]
      rfl
  · rw [if_pos hl]
    apply validD_low
    intro b hb
    simp at hb
    rcases hb with rfl | rfl
    · decide
    · exact (let_low hl).1

theorem valid_quote : ∀ (n : Nat) (l : List UInt8), l.length ≤ n → validD l = true → validD (quoteIn l) = true
  | 0, l, hn, _ => by
    have : l = [] := List.eq_nil_of_length_eq_zero (by omega)
    subst this
    rfl
  | n + 1, l, hn, hv => by
    by_cases hne : l = []
    · subst hne
      rfl
    · obtain ⟨hb, hv2⟩ := ok_head hne hv
      have hw := decodeL_width l
      rw [esc_step l hne hb]
      exact validD_both _ _ (valid_chunk l hne hb) (valid_quote n _ (by rw [List.length_drop]; omega) hv2)

theorem inner_of (b : List UInt8) (x y : UInt8) : innerB (x :: (b ++ [y])) = b := by
  unfold innerB
  have : (x :: (b ++ [y])).length - 2 = b.length := by simp
  rw [this]
  simp

theorem last_of (b : List UInt8) (x y : UInt8) : (x :: (b ++ [y])).getLast? = some y := by
  rw [← List.cons_append, List.getLast?_append]
  simp

/-- P1.4. -/
theorem unq_quote (l : List UInt8) (hv : validD l = true) : unqP (quoteB l) = some l := by
  unfold quoteB
  rw [if_pos hv]
  rw [unqP_yes (34 :: (quoteIn l ++ [34])) ⟨by simp, by simp, last_of _ _ _, ?_⟩, inner_of]
  · have := res_back l.length l [] 0 (Nat.le_refl _) hv
    exact this
  · rw [validD_cons _ _ (by decide)]
    exact validD_both _ _ (valid_quote l.length l (Nat.le_refl _) hv) (by decide +kernel)

/-- Where a quote sign stands in what a rune is quoted as. -/
theorem chunk34 (c : Int) (hc0 : 0 ≤ c) (m : Nat) (h : (escR c)[m]? = some 34) : c = 34 ∧ m = 1 := by
  unfold escR at h
  by_cases hl : letOf c = 0
  · rw [if_neg (by simpa using hl)] at h
    by_cases hx : c < 32 ∨ c = 127
    · rw [if_pos hx] at h
      have d1 := hexD_low (c / 16).toNat
      have d2 := hexD_low (c % 16).toNat
      have hm := List.mem_of_getElem? h
      simp at hm
      rcases hm with hm | hm
      · rcases d1 with d1 | d1
        · exact absurd hm.symm d1.2
        · omega
      · rcases d2 with d2 | d2
        · exact absurd hm.symm d2.2
        · omega
    · rw [if_neg hx] at h
      have hm := List.mem_of_getElem? h
      by_cases h128 : 128 ≤ c
      · have := encodeRune_high h128 34 hm
        exact absurd this (by decide)
      · unfold encodeRune at hm
        rw [encodeRuneZ_one hc0 (by omega)] at hm
        simp at hm
        have h34 : c = 34 := by
          have := congrArg UInt8.toNat hm
          simp at this
          omega
        subst h34
        exact absurd hl (by decide)
  · rw [if_pos hl] at h
    match m, h with
    | 0, h => simp at h
    | 1, h =>
      simp at h
      exact ⟨(let_low hl).2 h, rfl⟩
    | (m + 2), h => simp at h

theorem res_cut : ∀ (n : Nat) (l o : List UInt8) (k : Int) (m : Nat), l.length ≤ n → validD l = true → (quoteIn l)[m]? = some 34 → res (St.clean o k) ((quoteIn l).take m) = none
  | 0, l, o, k, m, hn, _, h => by
    have : l = [] := List.eq_nil_of_length_eq_zero (by omega)
    subst this
    simp [quoteIn] at h
  | n + 1, l, o, k, m, hn, hv, h => by
    by_cases hne : l = []
    · subst hne
      simp [quoteIn] at h
    · obtain ⟨hb, hv2⟩ := ok_head hne hv
      have hw := decodeL_width l
      rw [esc_step l hne hb] at h ⊢
      by_cases hm : m < (escR (decodeL l).1).length
      · rw [List.getElem?_append_left hm] at h
        obtain ⟨hc, rfl⟩ := chunk34 _ (by omega) m h
        rw [hc]
        rfl
      · rw [List.getElem?_append_right (by omega)] at h
        rw [List.take_append, List.take_of_length_le (by omega)]
        obtain ⟨k', e⟩ := res_chunk l o ((quoteIn (l.drop (decodeL l).2)).take (m - (escR (decodeL l).1).length)) k hne hb
        rw [e]
        exact res_cut n _ _ _ _ (by rw [List.length_drop]; omega) hv2 h

/-- Cut ahead of its last sign a quoted text is none. -/
theorem unq_cut (l : List UInt8) (hv : validD l = true) (k : Nat) (hk : k + 2 ≤ (quoteB l).length) : unqP ((quoteB l).take k) = none := by
  have e : quoteB l = 34 :: (quoteIn l ++ [34]) := by unfold quoteB; rw [if_pos hv]
  rw [e] at hk ⊢
  simp at hk
  match k with
  | 0 => exact unqP_no _ (by simp)
  | 1 => exact unqP_no _ (by simp)
  | (k + 2) =>
    have hk' : k + 1 ≤ (quoteIn l).length := by omega
    have e2 : (34 :: (quoteIn l ++ [34])).take (k + 2) = 34 :: ((quoteIn l).take k ++ [(quoteIn l)[k]'(by omega)]) := by
      rw [List.take_succ_cons, List.take_append_of_le_length (by omega), List.take_succ_eq_append_getElem (by omega)]
    rw [e2]
    by_cases h34 : (quoteIn l)[k]'(by omega) = 34
    · rw [h34]
      by_cases hval : validD (34 :: ((quoteIn l).take k ++ [34])) = true
      · rw [unqP_yes (34 :: ((quoteIn l).take k ++ [34])) ⟨by simp, by simp, last_of _ _ _, hval⟩, inner_of]
        exact res_cut l.length l [] 0 k (Nat.le_refl _) hv (by rw [List.getElem?_eq_getElem (by omega), h34])
      · exact unqP_no _ (fun h => hval h.2.2.2)
    · refine unqP_no _ (fun h => h34 ?_)
      have := h.2.2.1
      rw [← List.cons_append, List.getLast?_append] at this
      simpa using this

end Go.Proofs.YtiblffipfldgjaaGreatDoor
