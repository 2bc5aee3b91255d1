/-
  What runes.splitLines answers.
-/
import Derived.Test.YtibkncgfdhflgaaGreatDoorJoin
import Derived.Test.YtibkncgfdhflgaaGreatDoorPure2
namespace Go.Proofs.YtibkncgfdhflgaaGreatDoor
open Go.RowKit

/-- A text's lines: what stands in the line so far; was the last one 13? -/
def linesG (cur : List UInt8) (beh : Bool) : List UInt8 → List (List UInt8)
  | [] => [cur]
  | c :: t => if (c == 10 && beh) = true then linesG [] false t else if (c == 10 || c == 13) = true then cur :: linesG [] (c == 13) t else linesG (cur ++ [c]) false t
def linesB (l : List UInt8) : List (List UInt8) := linesG [] false l

theorem linesG_high (a t cur : List UInt8) (beh : Bool) (hne : a ≠ []) (h : ∀ b ∈ a, 128 ≤ b.toNat) : linesG cur beh (a ++ t) = linesG (cur ++ a) false t := by
  induction a generalizing cur beh with
  | nil => exact absurd rfl hne
  | cons b r ih =>
    have hb := h b (by simp)
    have h10 : (b == 10) = false := by
      rw [beq_eq_false_iff_ne]; intro e; subst e; exact absurd hb (by decide)
    have h13 : (b == 13) = false := by
      rw [beq_eq_false_iff_ne]; intro e; subst e; exact absurd hb (by decide)
    rw [List.cons_append]
    simp only [linesG, h10, h13]
    simp only [Bool.false_and, Bool.or_self, Bool.false_eq_true, if_false]
    by_cases hr : r = []
    · subst hr; rfl
    · rw [ih (cur ++ [b]) false hr (fun x hx => h x (by simp [hx]))]
      simp

/-- The bytes of a rune that is no ASCII. -/
theorem rune_high (l : List UInt8) (hne : l ≠ []) (h : 128 ≤ (Lib.decodeL l).1) : ∀ b ∈ l.take (Lib.decodeL l).2, 128 ≤ b.toNat := by
  cases hb : badAt l with
  | false =>
    have hx : ¬ ((Lib.decodeL l).1 = 65533 ∧ (Lib.decodeL l).2 = 1) := by simpa [badAt] using hb
    rw [← Lib.encode_decode l hne hx]
    exact encodeRune_high (by omega)
  | true =>
    have hx : (Lib.decodeL l).1 = 65533 ∧ (Lib.decodeL l).2 = 1 := by simpa [badAt] using hb
    rw [hx.2]
    cases l with
    | nil => exact absurd rfl hne
    | cons c t =>
      intro b hb'
      simp at hb'
      subst hb'
      rcases Nat.lt_or_ge b.toNat 128 with h' | h'
      · rw [Lib.decodeL_ascii b t h'] at h
        simp at h
        omega
      · exact h'

theorem extract_add (s : ByteArray) (a b c : Nat) (hab : a ≤ b) (hbc : b ≤ c) : bl (s.extract a c) = bl (s.extract a b) ++ (s.data.toList.drop b).take (c - b) := by
  unfold bl
  rw [Lib.extract_data, Lib.extract_data]
  have : c - a = (b - a) + (c - b) := by omega
  rw [this, List.take_add, List.drop_drop]
  congr 3
  omega

/-- What one rune does to the lines. -/
theorem lines_other (s : ByteArray) (b pos : Nat) (beh : Bool) (hbp : b ≤ pos) (hp : pos < s.size) (h10 : (Utf8.decode s pos).1 ≠ 10) (h13 : (Utf8.decode s pos).1 ≠ 13) :
    linesG (bl (s.extract b pos)) beh (s.data.toList.drop pos) = linesG (bl (s.extract b (pos + (Utf8.decode s pos).2))) false (s.data.toList.drop (pos + (Utf8.decode s pos).2)) ∧ pos + (Utf8.decode s pos).2 ≤ s.size := by
  have hne := drop_ne s pos hp
  have hle := Lib.decodeL_le _ hne
  rw [Lib.decodeL_drop, len_drop] at hle
  refine ⟨?_, by omega⟩
  by_cases ha : s[pos].toNat < 128
  · have hd := decode_ascii s pos hp ha
    rw [hd] at h10 h13
    simp only at h10 h13
    have e10 : (s[pos] == 10) = false := by
      rw [beq_eq_false_iff_ne]; intro e; rw [e] at h10; exact h10 rfl
    have e13 : (s[pos] == 13) = false := by
      rw [beq_eq_false_iff_ne]; intro e; rw [e] at h13; exact h13 rfl
    rw [hd, extract_add s b pos (pos + 1) hbp (by omega)]
    conv => lhs; rw [drop_cons s pos hp]
    simp only [linesG, e10, e13]
    simp only [Bool.false_and, Bool.or_self, Bool.false_eq_true, if_false]
    congr 2
    rw [drop_cons s pos hp]
    have : pos + 1 - pos = 1 := by omega
    rw [this]
    rfl
  · have hh := (decode_high s pos hp (by omega)).1
    have hb := rune_high _ hne (by rw [Lib.decodeL_drop]; exact hh)
    rw [Lib.decodeL_drop] at hb
    have hw : 1 ≤ (Utf8.decode s pos).2 := by rw [← Lib.decodeL_drop]; exact Lib.decodeL_width _
    conv => lhs; rw [← List.take_append_drop (Utf8.decode s pos).2 (s.data.toList.drop pos)]
    rw [linesG_high _ _ _ _ ?_ hb, List.drop_drop, extract_add s b pos (pos + (Utf8.decode s pos).2) hbp (by omega)]
    · have : pos + (Utf8.decode s pos).2 - pos = (Utf8.decode s pos).2 := by omega
      rw [this]
    · intro e
      have := congrArg List.length e
      rw [List.length_take, len_drop] at this
      simp at this
      omega

theorem byte_of (s : ByteArray) (pos : Nat) (hp : pos < s.size) (n : Nat) (hn : n < 128) (h : (Utf8.decode s pos).1 = n) : s[pos] = UInt8.ofNat n ∧ (Utf8.decode s pos).2 = 1 := by
  by_cases ha : s[pos].toNat < 128
  · have hd := decode_ascii s pos hp ha
    rw [hd] at h ⊢
    simp only at h
    refine ⟨?_, rfl⟩
    rw [← h]
    simp
  · have hh := (decode_high s pos hp (by omega)).1
    omega

theorem lines_10b (s : ByteArray) (b pos : Nat) (hp : pos < s.size) (h : (Utf8.decode s pos).1 = 10) :
    linesG (bl (s.extract b pos)) true (s.data.toList.drop pos) = linesG (bl (s.extract (pos + 1) (pos + 1))) false (s.data.toList.drop (pos + 1)) := by
  have e := (byte_of s pos hp 10 (by omega) h).1
  rw [drop_cons s pos hp, e]
  simp [linesG, bl]
theorem lines_10 (s : ByteArray) (b pos : Nat) (hp : pos < s.size) (h : (Utf8.decode s pos).1 = 10) :
    linesG (bl (s.extract b pos)) false (s.data.toList.drop pos) = bl (s.extract b pos) :: linesG (bl (s.extract (pos + 1) (pos + 1))) false (s.data.toList.drop (pos + 1)) := by
  have e := (byte_of s pos hp 10 (by omega) h).1
  rw [drop_cons s pos hp, e]
  simp [linesG, bl]
theorem lines_13 (s : ByteArray) (b pos : Nat) (beh : Bool) (hp : pos < s.size) (h : (Utf8.decode s pos).1 = 13) :
    linesG (bl (s.extract b pos)) beh (s.data.toList.drop pos) = bl (s.extract b pos) :: linesG (bl (s.extract (pos + 1) (pos + 1))) true (s.data.toList.drop (pos + 1)) := by
  have e := (byte_of s pos hp 13 (by omega) h).1
  rw [drop_cons s pos hp, e]
  simp [linesG, bl]
theorem lines_end (s : ByteArray) (b pos : Nat) (beh : Bool) (hps : pos ≤ s.size) (hp : ¬ pos < s.size) : linesG (bl (s.extract b pos)) beh (s.data.toList.drop pos) = [bl (s.extract b s.size)] := by
  rw [drop_end s pos hp]
  have : pos = s.size := by omega
  subst this
  rfl

end Go.Proofs.YtibkncgfdhflgaaGreatDoor
