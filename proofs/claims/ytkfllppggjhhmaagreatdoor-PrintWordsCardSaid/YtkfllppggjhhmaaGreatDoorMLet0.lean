/-
  Plain facts on UTF-8, quotes and escapes; no program in it.
-/
import Derived.Lib.ValidLaws
import Derived.Lib.RuneBytes
import Derived.Lib.MapLaws
import Derived.Lib.Strings
import Derived.Test.YtkfllppggjhhmaaGreatDoorRows
import Derived.WalkKit
import Derived.WalkSpells
import Derived.WalkLawsBesides
import Derived.Lib.Hide
import Derived.Lib.OthersKept
namespace Go.Proofs.YtkfllppggjhhmaaGreatDoor
open Go.Lib

theorem drop_cons (s : ByteArray) (pos : Nat) (h : pos < s.size) : s.data.toList.drop pos = s[pos] :: s.data.toList.drop (pos + 1) := by
  rw [List.drop_eq_getElem_cons (by simpa using h)]; rfl

theorem len_drop (s : ByteArray) (pos : Nat) : (s.data.toList.drop pos).length = s.size - pos := by
  rw [List.length_drop]; rfl

theorem drop_ne (s : ByteArray) (pos : Nat) (h : pos < s.size) : s.data.toList.drop pos ≠ [] := by
  rw [drop_cons s pos h]; simp

theorem drop_end (s : ByteArray) (pos : Nat) (h : ¬ pos < s.size) : s.data.toList.drop pos = [] :=
  List.drop_of_length_le (show s.size ≤ pos by omega)

/-! ### Valid: what the program asks at a rune -/
theorem decode_fffd (t : List UInt8) : decodeL (239 :: 191 :: 189 :: t) = (65533, 3) := by
  rw [decodeL_N]
  simp [decodeN]

theorem encode_fffd : encodeRune 65533 = [239, 191, 189] := by
  unfold encodeRune
  rw [encodeRuneZ_three (by omega)]
  decide

theorem bad_iff (l : List UInt8) (hne : l ≠ []) : ((decodeL l).1 = 65533 ∧ hasPrefix l [239, 191, 189] = false) ↔ ((decodeL l).1 = 65533 ∧ (decodeL l).2 = 1) := by
  constructor
  · rintro ⟨h1, h2⟩
    refine ⟨h1, Classical.byContradiction fun h3 => ?_⟩
    have := encode_decode l hne (fun h => h3 h.2)
    rw [h1] at this
    have e : encodeRune ((65533 : Nat) : Int) = [239, 191, 189] := encode_fffd
    rw [e] at this
    have hp : hasPrefix l [239, 191, 189] = true := by
      unfold hasPrefix
      rw [List.isPrefixOf_iff_prefix, this]
      exact List.take_prefix _ _
    rw [hp] at h2
    cases h2
  · rintro ⟨h1, h2⟩
    refine ⟨h1, Bool.eq_false_iff.2 fun hp => ?_⟩
    unfold hasPrefix at hp
    rw [List.isPrefixOf_iff_prefix] at hp
    obtain ⟨t, rfl⟩ := hp
    have : decodeL ([239, 191, 189] ++ t) = (65533, 3) := decode_fffd t
    rw [this] at h2
    cases h2

/-- Is what stands at the front no rune? -/
def badAt (l : List UInt8) : Bool := decide ((decodeL l).1 = 65533 ∧ (decodeL l).2 = 1)

theorem validD_go (l : List UInt8) (hne : l ≠ []) (h : badAt l = false) : validD l = validD (l.drop (decodeL l).2) := by
  rw [validD_step l hne, if_neg (by simpa [badAt] using h)]
theorem validD_bad (l : List UInt8) (hne : l ≠ []) (h : badAt l = true) : validD l = false := by
  rw [validD_step l hne, if_pos (by simpa [badAt] using h)]

theorem decodeN_high (n b0 b1 b2 b3 : Nat) (h : ¬ b0 < 128) : 128 ≤ (decodeN n b0 b1 b2 b3).1 := by
  unfold decodeN
  rw [if_neg h]
  repeat' split
  all_goals simp only
  all_goals omega

/-! ### Quote -/
def hexD (n : Nat) : UInt8 := if n < 10 then UInt8.ofNat (48 + n) else UInt8.ofNat (87 + n)
/-- The letter behind the backslash; 0: none. -/
def letOf (c : Int) : Int := if c = 34 ∨ c = 92 then c else if c = 8 then 98 else if c = 9 then 116 else if c = 10 then 110 else if c = 12 then 102 else if c = 13 then 114 else 0
/-- One byte, quoted. -/
def escB (b : UInt8) : List UInt8 :=
  if letOf b.toNat ≠ 0 then [92, UInt8.ofNat (letOf b.toNat).toNat] else if b.toNat < 32 ∨ b.toNat = 127 then [92, 117, 48, 48, hexD (b.toNat / 16), hexD (b.toNat % 16)] else [b]
/-- One rune, quoted. -/
def escR (c : Int) : List UInt8 :=
  if letOf c ≠ 0 then [92, UInt8.ofNat (letOf c).toNat] else if c < 32 ∨ c = 127 then [92, 117, 48, 48, hexD (c / 16).toNat, hexD (c % 16).toNat] else encodeRune c
def quoteIn (l : List UInt8) : List UInt8 := l.flatMap escB
def quoteB (l : List UInt8) : List UInt8 := if validD l then 34 :: (quoteIn l ++ [34]) else []

theorem letOf_high {c : Int} (h : 128 ≤ c) : letOf c = 0 := by
  unfold letOf
  repeat rw [if_neg (by omega)]
theorem letOf_range (c : Int) : letOf c = 0 ∨ (34 ≤ letOf c ∧ letOf c ≤ 127) := by
  unfold letOf
  repeat' split
  all_goals omega
theorem escB_high {b : UInt8} (h : 128 ≤ b.toNat) : escB b = [b] := by
  unfold escB
  rw [letOf_high (by omega), if_neg (by simp), if_neg (by omega)]
theorem escR_high {c : Int} (h : 128 ≤ c) : escR c = encodeRune c := by
  unfold escR
  rw [letOf_high h, if_neg (by simp), if_neg (by omega)]
theorem encodeRune_high {c : Int} (h : 128 ≤ c) : ∀ b ∈ encodeRune c, 128 ≤ b.toNat := by
  intro b hb
  unfold encodeRune at hb
  obtain ⟨x, hx, rfl⟩ := List.mem_map.1 hb
  have hr := encodeRuneZ_byte c x hx
  have : 128 ≤ x := by
    unfold encodeRuneZ at hx
    rw [if_neg (by omega)] at hx
    split at hx
    · simp at hx; omega
    · split at hx
      · simp at hx; omega
      · split at hx
        · simp at hx; omega
        · simp at hx; omega
  simp
  omega
theorem flatMap_high (l : List UInt8) (h : ∀ b ∈ l, 128 ≤ b.toNat) : l.flatMap escB = l := by
  induction l with
  | nil => rfl
  | cons a t ih =>
    rw [List.flatMap_cons, escB_high (h a (by simp)), ih (fun b hb => h b (by simp [hb]))]
    rfl
theorem escR_ascii {b : UInt8} (h : b.toNat < 128) : escR b.toNat = escB b := by
  unfold escR escB
  by_cases h1 : letOf b.toNat ≠ 0
  · rw [if_pos h1, if_pos h1]
  · rw [if_neg h1, if_neg h1]
    by_cases h2 : b.toNat < 32 ∨ b.toNat = 127
    · rw [if_pos (by omega), if_pos h2]
      have e1 : ((b.toNat : Int) / 16).toNat = b.toNat / 16 := by omega
      have e2 : ((b.toNat : Int) % 16).toNat = b.toNat % 16 := by omega
      rw [e1, e2]
    · rw [if_neg (by omega), if_neg h2]
      unfold encodeRune
      rw [encodeRuneZ_one (by omega) (by omega)]
      simp

/-- A rune's bytes, quoted one by one, are the rune, quoted. -/
theorem esc_step (l : List UInt8) (hne : l ≠ []) (h : badAt l = false) : quoteIn l = escR (decodeL l).1 ++ quoteIn (l.drop (decodeL l).2) := by
  have hb : ¬ ((decodeL l).1 = 65533 ∧ (decodeL l).2 = 1) := by simpa [badAt] using h
  have hed := encode_decode l hne hb
  obtain ⟨b, t, rfl⟩ : ∃ b t, l = b :: t := by
    cases l with
    | nil => exact absurd rfl hne
    | cons b t => exact ⟨b, t, rfl⟩
  by_cases ha : b.toNat < 128
  · rw [decodeL_ascii b t ha]
    show quoteIn (b :: t) = escR (b.toNat : Int) ++ quoteIn t
    rw [escR_ascii ha]
    rfl
  · have hh : 128 ≤ (decodeL (b :: t)).1 := by
      rw [decodeL_N]
      exact decodeN_high _ _ _ _ _ ha
    rw [escR_high (by omega), hed]
    conv => lhs; rw [← List.take_append_drop (decodeL (b :: t)).2 (b :: t)]
    unfold quoteIn
    rw [List.flatMap_append, flatMap_high _ (by rw [← hed]; exact encodeRune_high (by omega))]

theorem quoteIn_len (l : List UInt8) : (quoteIn l).length ≤ 6 * l.length := by
  unfold quoteIn
  induction l with
  | nil => simp
  | cons a t ih =>
    rw [List.flatMap_cons, List.length_append, List.length_cons]
    have : (escB a).length ≤ 6 := by
      unfold escB
      split
      · simp
      · split <;> simp
    omega

end Go.Proofs.YtkfllppggjhhmaaGreatDoor
/-
  Letters and digits, as tests of a number.
-/
namespace Go.Proofs.YtkfllppggjhhmaaGreatDoor
open Go.RowKit

def letB (c : Int) : Bool := decide ((97 ≤ c ∧ c ≤ 122) ∨ (65 ≤ c ∧ c ≤ 90) ∨ c = 95)
def digB (c : Int) : Bool := decide (48 ≤ c ∧ c ≤ 57)

theorem ret_bool {a b : Bool} (h : a = b) : Ending.returned (.bool a) = .returned (.bool b) := by rw [h]

end Go.Proofs.YtkfllppggjhhmaaGreatDoor
