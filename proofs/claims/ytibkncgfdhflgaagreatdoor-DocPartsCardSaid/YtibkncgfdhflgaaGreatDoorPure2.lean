/-
  Plain facts: what is right UTF-8 side by side; what is quoted is unquoted; cut it is none.
-/
import Derived.Test.YtibkncgfdhflgaaGreatDoorPure
namespace Go.Proofs.YtibkncgfdhflgaaGreatDoor
open Go.Lib

theorem decodeN_far (n n' b0 b1 b2 b3 c1 c2 c3 : Nat) (hn : n ≤ n') (e1 : 1 < n → b1 = c1) (e2 : 2 < n → b2 = c2) (e3 : 3 < n → b3 = c3) (h : ¬ ((decodeN n b0 b1 b2 b3).1 = 65533 ∧ (decodeN n b0 b1 b2 b3).2 = 1)) : decodeN n' b0 c1 c2 c3 = decodeN n b0 b1 b2 b3 := by
  unfold decodeN at h ⊢
  by_cases h0 : b0 < 128
  · rw [if_pos h0, if_pos h0]
  · rw [if_neg h0] at h
    rw [if_neg h0, if_neg h0]
    by_cases h2 : b0 / 32 = 6 ∧ (1 < n ∧ b1 / 64 = 2)
    · have := e1 h2.2.1
      subst this
      rw [if_pos (by omega), if_pos h2]
    · rw [if_neg h2] at h
      rw [if_neg h2]
      by_cases h3 : b0 / 16 = 14 ∧ (1 < n ∧ b1 / 64 = 2) ∧ (2 < n ∧ b2 / 64 = 2)
      · have := e1 h3.2.1.1
        have := e2 h3.2.2.1
        subst_vars
        rw [if_neg (by omega), if_pos (by omega), if_pos h3]
      · rw [if_neg h3] at h
        rw [if_neg h3]
        by_cases h4 : b0 / 8 = 30 ∧ (1 < n ∧ b1 / 64 = 2) ∧ (2 < n ∧ b2 / 64 = 2) ∧ (3 < n ∧ b3 / 64 = 2)
        · have := e1 h4.2.1.1
          have := e2 h4.2.2.1.1
          have := e3 h4.2.2.2.1
          subst_vars
          rw [if_neg (by omega), if_neg (by omega), if_pos (by omega), if_pos h4]
        · rw [if_neg h4] at h
          exact absurd ⟨rfl, rfl⟩ h

theorem getD_app (l t : List UInt8) (k : Nat) (h : k < l.length) : (l ++ t).getD k 0 = l.getD k 0 := by
  simp [List.getD, List.getElem?_append_left h]

/-- A rune at the front is read the same whatever stands behind. -/
theorem decodeL_app (l t : List UInt8) (hne : l ≠ []) (h : badAt l = false) : decodeL (l ++ t) = decodeL l := by
  have hl : 0 < l.length := List.length_pos_iff.2 hne
  have hb : ¬ ((decodeL l).1 = 65533 ∧ (decodeL l).2 = 1) := by simpa [badAt] using h
  rw [decodeL_N l] at hb
  rw [decodeL_N (l ++ t), decodeL_N l, getD_app l t 0 hl]
  refine decodeN_far _ _ _ _ _ _ _ _ _ (by simp) ?_ ?_ ?_ hb
  · intro h1; rw [getD_app l t 1 h1]
  · intro h1; rw [getD_app l t 2 h1]
  · intro h1; rw [getD_app l t 3 h1]

theorem badAt_app (l t : List UInt8) (hne : l ≠ []) (h : badAt l = false) : badAt (l ++ t) = false := by
  unfold badAt
  rw [decodeL_app l t hne h]
  exact h

theorem validD_app : ∀ (n : Nat) (a b : List UInt8), a.length ≤ n → validD a = true → validD (a ++ b) = validD b
  | 0, a, b, hn, _ => by
    have : a = [] := List.eq_nil_of_length_eq_zero (by omega)
    subst this
    rfl
  | n + 1, a, b, hn, hv => by
    by_cases hne : a = []
    · subst hne; rfl
    · have hb : badAt a = false := by
        cases hx : badAt a with
        | false => rfl
        | true => rw [validD_bad a hne hx] at hv; cases hv
      have hw := decodeL_width a
      have hl := decodeL_le a hne
      rw [validD_go a hne hb] at hv
      rw [validD_go (a ++ b) (by simp [hne]) (badAt_app a b hne hb), decodeL_app a b hne hb, List.drop_append_of_le_length hl]
      exact validD_app n _ b (by rw [List.length_drop]; omega) hv

theorem validD_both (a b : List UInt8) (ha : validD a = true) (hb : validD b = true) : validD (a ++ b) = true := by
  rw [validD_app a.length a b (Nat.le_refl _) ha]; exact hb
theorem validD_broken (a b : List UInt8) (ha : validD a = true) (hb : validD b = false) : validD (a ++ b) = false := by
  rw [validD_app a.length a b (Nat.le_refl _) ha]; exact hb

/-- The eight wrong ones of the law, by their bytes. -/
def wrongB (k : Nat) : List UInt8 := match k with
  | 0 => [0xC0, 0x80] | 1 => [0xED, 0xA0, 0x80] | 2 => [0xF5, 0x80, 0x80, 0x80] | 3 => [0x80] | 4 => [0xE2, 0x82] | 5 => [0xF0, 0x80, 0x80, 0x80] | 6 => [0xFF] | _ => [0xC3, 0x41]

theorem bad_of_N (l : List UInt8) (h : decodeN l.length (l.getD 0 0).toNat (l.getD 1 0).toNat (l.getD 2 0).toNat (l.getD 3 0).toNat = (65533, 1)) : badAt l = true := by
  unfold badAt
  rw [decodeL_N, h]
  simp

theorem head_cont (b : UInt8) (t : List UInt8) (h : validD (b :: t) = true) : ¬ b.toNat / 64 = 2 := by
  intro hc
  rw [validD_bad _ (by simp) (bad_of_N _ ?_)] at h
  · cases h
  · exact decodeN_cont _ _ _ _ _ hc

theorem wrong_bad (k : Nat) (t : List UInt8) (ht : validD t = true) : badAt (wrongB k ++ t) = true := by
  apply bad_of_N
  unfold wrongB
  split
  · simp [decodeN]
  · simp [decodeN]
  · simp [decodeN]
  · simp [decodeN]
  · cases t with
    | nil => simp [decodeN]
    | cons b t =>
      have := head_cont b t ht
      simp [decodeN, this]
  · simp [decodeN]
  · simp [decodeN]
  · simp [decodeN]

theorem wrong_invalid (k : Nat) (a t : List UInt8) (ha : validD a = true) (ht : validD t = true) : validD (a ++ (wrongB k ++ t)) = false :=
  validD_broken a _ ha (validD_bad _ (by unfold wrongB; split <;> simp) (wrong_bad k t ht))

end Go.Proofs.YtibkncgfdhflgaaGreatDoor
