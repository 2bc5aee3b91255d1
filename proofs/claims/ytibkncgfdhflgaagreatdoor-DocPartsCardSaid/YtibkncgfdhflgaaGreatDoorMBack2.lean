/-
  Plain facts: what is quoted is unquoted; cut it is none.
-/
import Derived.Test.YtibkncgfdhflgaaGreatDoorPure2
import Derived.Test.YtibkncgfdhflgaaGreatDoorUnq3
namespace Go.Proofs.YtibkncgfdhflgaaGreatDoor
open Go.Lib

theorem decodeN_near (n b0 b1 b2 b3 c1 c2 c3 : Nat) (h : ¬ ((decodeN n b0 b1 b2 b3).1 = 65533 ∧ (decodeN n b0 b1 b2 b3).2 = 1)) (e1 : 1 < (decodeN n b0 b1 b2 b3).2 → b1 = c1) (e2 : 2 < (decodeN n b0 b1 b2 b3).2 → b2 = c2) (e3 : 3 < (decodeN n b0 b1 b2 b3).2 → b3 = c3) : decodeN (decodeN n b0 b1 b2 b3).2 b0 c1 c2 c3 = decodeN n b0 b1 b2 b3 := by
  have key : ∀ r, decodeN n b0 b1 b2 b3 = r → decodeN r.2 b0 c1 c2 c3 = r := by
    intro r hr
    rw [hr] at h e1 e2 e3
    unfold decodeN at hr
    by_cases h0 : b0 < 128
    · rw [if_pos h0] at hr
      subst hr
      unfold decodeN
      rw [if_pos h0]
    · rw [if_neg h0] at hr
      by_cases h2 : b0 / 32 = 6 ∧ (1 < n ∧ b1 / 64 = 2)
      · rw [if_pos h2] at hr
        split at hr
        · subst hr
          simp only at e1
          have := e1 (by omega)
          subst this
          unfold decodeN
          rw [if_neg h0, if_pos (by simp only; omega), if_pos (by assumption)]
        · exact absurd (by rw [← hr]; exact ⟨rfl, rfl⟩) h
      · rw [if_neg h2] at hr
        by_cases h3 : b0 / 16 = 14 ∧ (1 < n ∧ b1 / 64 = 2) ∧ (2 < n ∧ b2 / 64 = 2)
        · rw [if_pos h3] at hr
          split at hr
          · subst hr
            simp only at e1 e2
            have := e1 (by omega)
            have := e2 (by omega)
            subst_vars
            unfold decodeN
            rw [if_neg h0, if_neg (by simp only; omega), if_pos (by simp only; omega), if_pos (by assumption)]
          · exact absurd (by rw [← hr]; exact ⟨rfl, rfl⟩) h
        · rw [if_neg h3] at hr
          by_cases h4 : b0 / 8 = 30 ∧ (1 < n ∧ b1 / 64 = 2) ∧ (2 < n ∧ b2 / 64 = 2) ∧ (3 < n ∧ b3 / 64 = 2)
          · rw [if_pos h4] at hr
            split at hr
            · subst hr
              simp only at e1 e2 e3
              have := e1 (by omega)
              have := e2 (by omega)
              have := e3 (by omega)
              subst_vars
              unfold decodeN
              rw [if_neg h0, if_neg (by simp only; omega), if_neg (by simp only; omega), if_pos (by simp only; omega), if_pos (by assumption)]
            · exact absurd (by rw [← hr]; exact ⟨rfl, rfl⟩) h
          · rw [if_neg h4] at hr
            exact absurd (by rw [← hr]; exact ⟨rfl, rfl⟩) h
  exact key _ rfl

theorem decodeL_take (l : List UInt8) (hne : l ≠ []) (h : badAt l = false) : decodeL (l.take (decodeL l).2) = decodeL l := by
  have hl := decodeL_le l hne
  have hw := decodeL_width l
  have hb : ¬ ((decodeL l).1 = 65533 ∧ (decodeL l).2 = 1) := by simpa [badAt] using h
  have hlen : (l.take (decodeL l).2).length = (decodeL l).2 := by rw [List.length_take]; omega
  rw [decodeL_N (l.take _), hlen, getD_takeU l _ 0 (by omega)]
  have e := decodeL_N l
  rw [e] at hb ⊢
  refine decodeN_near _ _ _ _ _ _ _ _ hb ?_ ?_ ?_
  · intro h1; rw [getD_takeU l _ 1 h1]
  · intro h1; rw [getD_takeU l _ 2 h1]
  · intro h1; rw [getD_takeU l _ 3 h1]

/-- A rune's own bytes, whatever stands behind, are read as that rune. -/
theorem decodeL_rune_app (l t : List UInt8) (hne : l ≠ []) (h : badAt l = false) : decodeL (encodeRune ((decodeL l).1 : Int) ++ t) = decodeL l := by
  have hb : ¬ ((decodeL l).1 = 65533 ∧ (decodeL l).2 = 1) := by simpa [badAt] using h
  have hw := decodeL_width l
  have hl := decodeL_le l hne
  have hne2 : l.take (decodeL l).2 ≠ [] := by
    intro e
    have h1 := congrArg List.length e
    have h2 : 0 < l.length := List.length_pos_iff.2 hne
    rw [List.length_take, List.length_nil] at h1
    omega
  rw [encode_decode l hne hb, decodeL_app _ t hne2 (by unfold badAt; rw [decodeL_take l hne h]; exact h), decodeL_take l hne h]

theorem encodeRune_len (l : List UInt8) (hne : l ≠ []) (h : badAt l = false) : (encodeRune ((decodeL l).1 : Int)).length = (decodeL l).2 := by
  have hb : ¬ ((decodeL l).1 = 65533 ∧ (decodeL l).2 = 1) := by simpa [badAt] using h
  have hl := decodeL_le l hne
  rw [encode_decode l hne hb, List.length_take]
  omega

/-- A clean reader. -/
def St.clean (o : List UInt8) (k : Int) : St := ⟨o, false, 0, k, 0⟩

theorem res_cons (s : St) (b : UInt8) (t : List UInt8) (h : b.toNat < 128) : res s (b :: t) = (s.take b.toNat).bind fun s' => res s' t := by
  rw [res_step s _ (by simp), decodeL_ascii b t h]
  rfl

theorem take_esc (o : List UInt8) (k : Int) : (St.clean o k).take 92 = some ⟨o, true, 0, k, 0⟩ := rfl
theorem take_pt (o : List UInt8) (k c : Int) (h : c ≠ 117) (hp : ptOf c ≠ 0) : (St.mk o true 0 k 0).take c = some (St.clean (o ++ encodeRune (ptOf c)) k) := by
  unfold St.take
  rw [if_neg (by simp), if_pos rfl]
  unfold St.takeLetter
  rw [if_neg h, if_neg hp]
  rfl
theorem take_u (o : List UInt8) (k : Int) : (St.mk o true 0 k 0).take 117 = some ⟨o, false, 4, 0, 0⟩ := rfl
theorem take_dig (o : List UInt8) (d k c : Int) (hd : 1 < d) (hv : 0 ≤ hexV c) : (St.mk o false d k 0).take c = some ⟨o, false, d - 1, k * 16 + hexV c, 0⟩ := by
  unfold St.take
  rw [if_pos (by simp only; omega)]
  unfold St.takeDigit
  rw [if_neg (by omega), if_pos (by exact hd)]
theorem take_dig1 (o : List UInt8) (k c : Int) (hv : 0 ≤ hexV c) (h1 : half1 (k * 16 + hexV c) = false) (h2 : half2 (k * 16 + hexV c) = false) : (St.mk o false 1 k 0).take c = some (St.clean (o ++ encodeRune (k * 16 + hexV c)) (k * 16 + hexV c)) := by
  unfold St.take
  rw [if_pos (by simp)]
  unfold St.takeDigit
  rw [if_neg (by omega), if_neg (by simp)]
  unfold St.takeCode
  simp only [h1, h2]
  rfl
theorem take_plain (o : List UInt8) (k c : Int) (h1 : c ≠ 92) (h2 : ¬ (c < 32 ∨ c = 34)) : (St.clean o k).take c = some (St.clean (o ++ encodeRune c) k) := by
  unfold St.take
  rw [if_neg (by simp [St.clean]), if_neg (by simp [St.clean]), if_neg h1, if_neg h2]
  rfl

theorem hexD_val (n : Nat) (h : n < 16) : (hexD n).toNat < 128 ∧ hexV (hexD n).toNat = n := by
  have h' : n = 0 ∨ n = 1 ∨ n = 2 ∨ n = 3 ∨ n = 4 ∨ n = 5 ∨ n = 6 ∨ n = 7 ∨ n = 8 ∨ n = 9 ∨ n = 10 ∨ n = 11 ∨ n = 12 ∨ n = 13 ∨ n = 14 ∨ n = 15 := by omega
  rcases h' with rfl | rfl | rfl | rfl | rfl | rfl | rfl | rfl | rfl | rfl | rfl | rfl | rfl | rfl | rfl | rfl <;> decide

theorem let_cases {c : Int} (h : letOf c ≠ 0) : c = 34 ∨ c = 92 ∨ c = 8 ∨ c = 9 ∨ c = 10 ∨ c = 12 ∨ c = 13 := by
  unfold letOf at h
  by_cases h1 : c = 34 ∨ c = 92
  · omega
  · rw [if_neg h1] at h
    by_cases h2 : c = 8
    · omega
    · rw [if_neg h2] at h
      by_cases h3 : c = 9
      · omega
      · rw [if_neg h3] at h
        by_cases h4 : c = 10
        · omega
        · rw [if_neg h4] at h
          by_cases h5 : c = 12
          · omega
          · rw [if_neg h5] at h
            by_cases h6 : c = 13
            · omega
            · rw [if_neg h6] at h
              exact absurd rfl h

theorem res_go {s s' : St} {b : UInt8} {t : List UInt8} {c : Int} (h : b.toNat < 128) (hc : (b.toNat : Int) = c) (hs : s.take c = some s') : res s (b :: t) = res s' t := by
  rw [res_cons s b t h, hc, hs]
  rfl

theorem res_let (o t : List UInt8) (k : Int) (x : UInt8) (c : Int) (hx : x.toNat < 128) (h : (x.toNat : Int) ≠ 117) (hp : ptOf x.toNat = c) (hc : c ≠ 0) : res (St.clean o k) (92 :: x :: t) = res (St.clean (o ++ encodeRune c) k) t := by
  rw [res_go (c := 92) (by decide) rfl (take_esc o k), res_go hx rfl (take_pt o k _ h (by rw [hp]; exact hc)), hp]

theorem res_u (o t : List UInt8) (k : Int) (x1 x2 x3 x4 : UInt8) (c : Int) (a1 : x1.toNat < 128) (a2 : x2.toNat < 128) (a3 : x3.toNat < 128) (a4 : x4.toNat < 128) (v1 : 0 ≤ hexV x1.toNat) (v2 : 0 ≤ hexV x2.toNat) (v3 : 0 ≤ hexV x3.toNat) (v4 : 0 ≤ hexV x4.toNat)
    (hc : c = ((hexV x1.toNat * 16 + hexV x2.toNat) * 16 + hexV x3.toNat) * 16 + hexV x4.toNat) (h1 : half1 c = false) (h2 : half2 c = false) : res (St.clean o k) (92 :: 117 :: x1 :: x2 :: x3 :: x4 :: t) = res (St.clean (o ++ encodeRune c) c) t := by
  have s1 : (St.mk o false 4 0 0).take x1.toNat = some ⟨o, false, 3, hexV x1.toNat, 0⟩ := by
    rw [take_dig o 4 0 _ (by omega) v1]
    congr 2
    omega
  have s2 : (St.mk o false 3 (hexV x1.toNat) 0).take x2.toNat = some ⟨o, false, 2, hexV x1.toNat * 16 + hexV x2.toNat, 0⟩ := take_dig o 3 _ _ (by omega) v2
  have s3 : (St.mk o false 2 (hexV x1.toNat * 16 + hexV x2.toNat) 0).take x3.toNat = some ⟨o, false, 1, (hexV x1.toNat * 16 + hexV x2.toNat) * 16 + hexV x3.toNat, 0⟩ := take_dig o 2 _ _ (by omega) v3
  have s4 : (St.mk o false 1 ((hexV x1.toNat * 16 + hexV x2.toNat) * 16 + hexV x3.toNat) 0).take x4.toNat = some (St.clean (o ++ encodeRune c) c) := by
    rw [take_dig1 _ _ _ v4 (by rw [← hc]; exact h1) (by rw [← hc]; exact h2), ← hc]
  rw [res_go (c := 92) (by decide) rfl (take_esc o k), res_go (c := 117) (by decide) rfl (take_u o k), res_go a1 rfl s1, res_go a2 rfl s2, res_go a3 rfl s3, res_go a4 rfl s4]

/-- One rune, quoted, is read as that rune. -/
theorem res_chunk (l o t : List UInt8) (k : Int) (hne : l ≠ []) (hb : badAt l = false) : ∃ k', res (St.clean o k) (escR (decodeL l).1 ++ t) = res (St.clean (o ++ encodeRune (decodeL l).1) k') t := by
  have hr := decodeL_rune_app l t hne hb
  have hlen := encodeRune_len l hne hb
  have hw := decodeL_width l
  generalize hc : ((decodeL l).1 : Int) = c at hr hlen
  have hc0 : 0 ≤ c := by omega
  unfold escR
  by_cases hl : letOf c = 0
  · rw [if_neg (by simpa using hl)]
    by_cases hx : c < 32 ∨ c = 127
    · rw [if_pos hx]
      have d1 := hexD_val (c / 16).toNat (by omega)
      have d2 := hexD_val (c % 16).toNat (by omega)
      refine ⟨c, ?_⟩
      refine res_u o t k 48 48 _ _ c (by decide) (by decide) d1.1 d2.1 (by decide) (by decide) (by omega) (by omega) ?_ ?_ ?_
      · rw [d1.2, d2.2]
        have e : hexV (48 : UInt8).toNat = 0 := rfl
        rw [e]
        omega
      · simp [half1]; omega
      · simp [half2]; omega
    · rw [if_neg hx]
      refine ⟨k, ?_⟩
      have hne2 : encodeRune c ++ t ≠ [] := by
        intro e
        have := congrArg List.length e
        rw [List.length_append, hlen] at this
        simp at this
        omega
      have h92 : c ≠ 92 := by intro e; subst e; exact absurd hl (by decide)
      have h34 : c ≠ 34 := by intro e; subst e; exact absurd hl (by decide)
      rw [res_step _ _ hne2, hr, hc, take_plain o k c h92 (by omega)]
      show res _ _ = _
      rw [← hlen, List.drop_left]
  · rw [if_pos hl]
    refine ⟨k, ?_⟩
    rcases let_cases hl with rfl | rfl | rfl | rfl | rfl | rfl | rfl
    · exact res_let o t k 34 34 (by decide) (by decide) rfl (by decide)
    · exact res_let o t k 92 92 (by decide) (by decide) rfl (by decide)
    · exact res_let o t k 98 8 (by decide) (by decide) rfl (by decide)
    · exact res_let o t k 116 9 (by decide) (by decide) rfl (by decide)
    · exact res_let o t k 110 10 (by decide) (by decide) rfl (by decide)
    · exact res_let o t k 102 12 (by decide) (by decide) rfl (by decide)
    · exact res_let o t k 114 13 (by decide) (by decide) rfl (by decide)

end Go.Proofs.YtibkncgfdhflgaaGreatDoor

/-
  Plain facts: Unquote of Quote is the text; a quoted text that is cut is none.
-/
namespace Go.Proofs.YtibkncgfdhflgaaGreatDoor
open Go.Lib

theorem ok_head {l : List UInt8} (hne : l ≠ []) (hv : validD l = true) : badAt l = false ∧ validD (l.drop (decodeL l).2) = true := by
  have hb : badAt l = false := by
    cases hx : badAt l with
    | false => rfl
    | true => rw [validD_bad l hne hx] at hv; cases hv
  exact ⟨hb, by rw [← validD_go l hne hb]; exact hv⟩

theorem res_back : ∀ (n : Nat) (l o : List UInt8) (k : Int), l.length ≤ n → validD l = true → res (St.clean o k) (quoteIn l) = some (o ++ l)
  | 0, l, o, k, hn, _ => by
    have : l = [] := List.eq_nil_of_length_eq_zero (by omega)
    subst this
    rw [List.append_nil]
    rfl
  | n + 1, l, o, k, hn, hv => by
    by_cases hne : l = []
    · subst hne
      rw [List.append_nil]
      rfl
    · obtain ⟨hb, hv2⟩ := ok_head hne hv
      have hw := decodeL_width l
      have hl := decodeL_le l hne
      have hx : ¬ ((decodeL l).1 = 65533 ∧ (decodeL l).2 = 1) := by simpa [badAt] using hb
      obtain ⟨k', e⟩ := res_chunk l o (quoteIn (l.drop (decodeL l).2)) k hne hb
      rw [esc_step l hne hb, e, res_back n _ _ _ (by rw [List.length_drop]; omega) hv2, encode_decode l hne hx, List.append_assoc, List.take_append_drop]

theorem hexD_low (n : Nat) : (hexD n).toNat < 128 ∧ hexD n ≠ 34 ∨ 16 ≤ n := by
  by_cases h : n < 16
  · left
    have h' : n = 0 ∨ n = 1 ∨ n = 2 ∨ n = 3 ∨ n = 4 ∨ n = 5 ∨ n = 6 ∨ n = 7 ∨ n = 8 ∨ n = 9 ∨ n = 10 ∨ n = 11 ∨ n = 12 ∨ n = 13 ∨ n = 14 ∨ n = 15 := by omega
    rcases h' with rfl | rfl | rfl | rfl | rfl | rfl | rfl | rfl | rfl | rfl | rfl | rfl | rfl | rfl | rfl | rfl <;> decide
  · right; omega

theorem let_low {c : Int} (h : letOf c ≠ 0) : (UInt8.ofNat (letOf c).toNat).toNat < 128 ∧ (UInt8.ofNat (letOf c).toNat = 34 → c = 34) := by
  rcases let_cases h with rfl | rfl | rfl | rfl | rfl | rfl | rfl <;> decide

theorem validD_low (l : List UInt8) (h : ∀ b ∈ l, b.toNat < 128) : validD l = true := by
  rw [validD_ascii l.length l (by rw [List.take_length]; exact h), List.drop_length]
  rfl

/-- What a rune is quoted as is right UTF-8. -/
theorem valid_chunk (l : List UInt8) (hne : l ≠ []) (hb : badAt l = false) : validD (escR (decodeL l).1) = true := by
  have hr := decodeL_rune_app l [] hne hb
  rw [List.append_nil] at hr
  have hlen := encodeRune_len l hne hb
  have hw := decodeL_width l
  generalize hc : ((decodeL l).1 : Int) = c at hr hlen
  have hc0 : 0 ≤ c := by omega
  unfold escR
  by_cases hl : letOf c = 0
  · rw [if_neg (by simpa using hl)]
    by_cases hx : c < 32 ∨ c = 127
    · rw [if_pos hx]
      have d1 := hexD_low (c / 16).toNat
      have d2 := hexD_low (c % 16).toNat
      apply validD_low
      intro b hb
      simp at hb
      rcases hb with rfl | rfl | rfl | rfl | rfl
      · decide
      · decide
      · decide
      · rcases d1 with d1 | d1
        · exact d1.1
        · omega
      · rcases d2 with d2 | d2
        · exact d2.1
        · omega
    · rw [if_neg hx]
      have hne2 : encodeRune c ≠ [] := by
        intro e
        rw [e] at hlen
        simp at hlen
        omega
      rw [validD_go _ hne2 (by unfold badAt; rw [hr]; exact hb), hr, ← hlen, List.drop_length]
      rfl
  · rw [if_pos hl]
    apply validD_low
    intro b hb
    simp at hb
    rcases hb with rfl | rfl
    · decide
    · exact (let_low hl).1

theorem valid_quote : ∀ (n : Nat) (l : List UInt8), l.length ≤ n → validD l = true → validD (quoteIn l) = true
  | 0, l, hn, _ => by
    have : l = [] := List.eq_nil_of_length_eq_zero (by omega)
    subst this
    rfl
  | n + 1, l, hn, hv => by
    by_cases hne : l = []
    · subst hne
      rfl
    · obtain ⟨hb, hv2⟩ := ok_head hne hv
      have hw := decodeL_width l
      rw [esc_step l hne hb]
      exact validD_both _ _ (valid_chunk l hne hb) (valid_quote n _ (by rw [List.length_drop]; omega) hv2)

theorem inner_of (b : List UInt8) (x y : UInt8) : innerB (x :: (b ++ [y])) = b := by
  unfold innerB
  have : (x :: (b ++ [y])).length - 2 = b.length := by simp
  rw [this]
  simp

theorem last_of (b : List UInt8) (x y : UInt8) : (x :: (b ++ [y])).getLast? = some y := by
  rw [← List.cons_append, List.getLast?_append]
  simp

/-- P1.4. -/
theorem unq_quote (l : List UInt8) (hv : validD l = true) : unqP (quoteB l) = some l := by
  unfold quoteB
  rw [if_pos hv]
  rw [unqP_yes (34 :: (quoteIn l ++ [34])) ⟨by simp, by simp, last_of _ _ _, ?_⟩, inner_of]
  · have := res_back l.length l [] 0 (Nat.le_refl _) hv
    exact this
  · rw [validD_cons _ _ (by decide)]
    exact validD_both _ _ (valid_quote l.length l (Nat.le_refl _) hv) (by decide +kernel)

/-- Where a quote sign stands in what a rune is quoted as. -/
theorem chunk34 (c : Int) (hc0 : 0 ≤ c) (m : Nat) (h : (escR c)[m]? = some 34) : c = 34 ∧ m = 1 := by
  unfold escR at h
  by_cases hl : letOf c = 0
  · rw [if_neg (by simpa using hl)] at h
    by_cases hx : c < 32 ∨ c = 127
    · rw [if_pos hx] at h
      have d1 := hexD_low (c / 16).toNat
      have d2 := hexD_low (c % 16).toNat
      have hm := List.mem_of_getElem? h
      simp at hm
      rcases hm with hm | hm
      · rcases d1 with d1 | d1
        · exact absurd hm.symm d1.2
        · omega
      · rcases d2 with d2 | d2
        · exact absurd hm.symm d2.2
        · omega
    · rw [if_neg hx] at h
      have hm := List.mem_of_getElem? h
      by_cases h128 : 128 ≤ c
      · have := encodeRune_high h128 34 hm
        exact absurd this (by decide)
      · unfold encodeRune at hm
        rw [encodeRuneZ_one hc0 (by omega)] at hm
        simp at hm
        have h34 : c = 34 := by
          have := congrArg UInt8.toNat hm
          simp at this
          omega
        subst h34
        exact absurd hl (by decide)
  · rw [if_pos hl] at h
    match m, h with
    | 0, h => simp at h
    | 1, h =>
      simp at h
      exact ⟨(let_low hl).2 h, rfl⟩
    | (m + 2), h => simp at h

theorem res_cut : ∀ (n : Nat) (l o : List UInt8) (k : Int) (m : Nat), l.length ≤ n → validD l = true → (quoteIn l)[m]? = some 34 → res (St.clean o k) ((quoteIn l).take m) = none
  | 0, l, o, k, m, hn, _, h => by
    have : l = [] := List.eq_nil_of_length_eq_zero (by omega)
    subst this
    simp [quoteIn] at h
  | n + 1, l, o, k, m, hn, hv, h => by
    by_cases hne : l = []
    · subst hne
      simp [quoteIn] at h
    · obtain ⟨hb, hv2⟩ := ok_head hne hv
      have hw := decodeL_width l
      rw [esc_step l hne hb] at h ⊢
      by_cases hm : m < (escR (decodeL l).1).length
      · rw [List.getElem?_append_left hm] at h
        obtain ⟨hc, rfl⟩ := chunk34 _ (by omega) m h
        rw [hc]
        rfl
      · rw [List.getElem?_append_right (by omega)] at h
        rw [List.take_append, List.take_of_length_le (by omega)]
        obtain ⟨k', e⟩ := res_chunk l o ((quoteIn (l.drop (decodeL l).2)).take (m - (escR (decodeL l).1).length)) k hne hb
        rw [e]
        exact res_cut n _ _ _ _ (by rw [List.length_drop]; omega) hv2 h

/-- Cut ahead of its last sign a quoted text is none. -/
theorem unq_cut (l : List UInt8) (hv : validD l = true) (k : Nat) (hk : k + 2 ≤ (quoteB l).length) : unqP ((quoteB l).take k) = none := by
  have e : quoteB l = 34 :: (quoteIn l ++ [34]) := by unfold quoteB; rw [if_pos hv]
  rw [e] at hk ⊢
  simp at hk
  match k with
  | 0 => exact unqP_no _ (by simp)
  | 1 => exact unqP_no _ (by simp)
  | (k + 2) =>
    have hk' : k + 1 ≤ (quoteIn l).length := by omega
    have e2 : (34 :: (quoteIn l ++ [34])).take (k + 2) = 34 :: ((quoteIn l).take k ++ [(quoteIn l)[k]'(by omega)]) := by
      rw [List.take_succ_cons, List.take_append_of_le_length (by omega), List.take_succ_eq_append_getElem (by omega)]
    rw [e2]
    by_cases h34 : (quoteIn l)[k]'(by omega) = 34
    · rw [h34]
      by_cases hval : validD (34 :: ((quoteIn l).take k ++ [34])) = true
      · rw [unqP_yes (34 :: ((quoteIn l).take k ++ [34])) ⟨by simp, by simp, last_of _ _ _, hval⟩, inner_of]
        exact res_cut l.length l [] 0 k (Nat.le_refl _) hv (by rw [List.getElem?_eq_getElem (by omega), h34])
      · exact unqP_no _ (fun h => hval h.2.2.2)
    · refine unqP_no _ (fun h => h34 ?_)
      have := h.2.2.1
      rw [← List.cons_append, List.getLast?_append] at this
      simpa using this

end Go.Proofs.YtibkncgfdhflgaaGreatDoor
