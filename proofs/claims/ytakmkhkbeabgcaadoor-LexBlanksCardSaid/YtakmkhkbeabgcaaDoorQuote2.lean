/-
  What runes.writeQuoted and runes.Quote answer.
-/
import Derived.Test.YtakmkhkbeabgcaaDoorQuote
namespace Go.Proofs.YtakmkhkbeabgcaaDoor
open Go.RowKit

theorem cells_let {c : Int} (h : letOf c ≠ 0) : Lib.byteCells (escR c) = [Value.int .u8 92] ++ Lib.runeCells (letOf c) := by
  have hr := letOf_range c
  unfold escR
  rw [if_pos h]
  unfold Lib.runeCells
  rw [Lib.encodeRuneZ_one (by omega) (by omega)]
  simp [Lib.byteCells]
  omega

theorem cells_hex {c : Int} (hl : letOf c = 0) (hc : c < 32 ∨ c = 127) (bs : List Value) : bs ++ Lib.byteCells (escR c) = bs ++ Lib.strCells ⟨#[92, 117, 48, 48]⟩ ++ [.int .u8 (hexD (c / 16).toNat).toNat] ++ [.int .u8 (hexD (c % 16).toNat).toNat] := by
  unfold escR
  rw [if_neg (by simpa using hl), if_pos hc]
  simp [Lib.byteCells, Lib.strCells]

def hexS : ByteArray := ⟨#[48, 49, 50, 51, 52, 53, 54, 55, 56, 57, 97, 98, 99, 100, 101, 102]⟩
theorem hex_at (k : Nat) (h : k < hexS.size) : (hexD k).toNat = (hexS[k]'h).toNat := by
  have h' : k < 16 := h
  match k, h' with
  | 0, _ | 1, _ | 2, _ | 3, _ | 4, _ | 5, _ | 6, _ | 7, _ | 8, _ | 9, _ | 10, _ | 11, _ | 12, _ | 13, _ | 14, _ | 15, _ => rfl
  | (k + 16), h' => omega

def StrBelow (w : World) (l : List UInt8) (e : Ending) (w' : World) : Prop := e = .returned (.string ⟨l.toArray⟩) ∧ Below w.heap.size w w'

theorem strBelow_mk {w w' : World} {l l' : List UInt8} (h : l = l') (hb : Below w.heap.size w w') : StrBelow w l' (.returned (.string ⟨l.toArray⟩)) w' := by
  subst h; exact ⟨rfl, hb⟩

theorem decode_rune_le (s : ByteArray) (pos : Nat) : (Utf8.decode s pos).1 ≤ 1114111 := by
  rw [← Lib.decodeL_drop]; exact Lib.decodeL_rune _

theorem badAt_of_valid (l : List UInt8) (hne : l ≠ []) (h : Lib.validD l = true) : badAt l = false := by
  cases hb : badAt l with
  | false => rfl
  | true => rw [validD_bad l hne hb] at h; cases h

/-- The loop's relation in runes.Quote: the builder in block B, the iterator in block k. -/
def QuoteRel (s : ByteArray) (w : World) (B k : Nat) (wr : World) : Prop :=
  ∃ (pos : Nat) (acc : List UInt8), Bld 78 B B [] (Lib.byteCells acc) wr ∧ wr.heap[k]? = some (.stringIter s pos) ∧ Below w.heap.size w wr ∧ Lib.validD (s.data.toList.drop pos) = true ∧ 34 :: quoteIn s.data.toList = acc ++ quoteIn (s.data.toList.drop pos)

end Go.Proofs.YtakmkhkbeabgcaaDoor
