/-
  What runes.writeQuoted and runes.Quote answer.
-/
import Derived.Test.YtibkncgfdhflgaaGreatDoorQuote
namespace Go.Proofs.YtibkncgfdhflgaaGreatDoor
open Go.RowKit

theorem cells_let {c : Int} (h : letOf c ≠ 0) : Lib.byteCells (escR c) = [Value.int .u8 92] ++ Lib.runeCells (letOf c) := by
  have hr := letOf_range c
  unfold escR
  rw [if_pos h]
  unfold Lib.runeCells
  rw [Lib.encodeRuneZ_one (by omega) (by omega)]
  simp [Lib.byteCells]
  omega

set_option maxHeartbeats 1000000 in
theorem writeQuoted_let {B b : Nat} {bs : List Value} {w : World} (c : Int) (hl : letOf c ≠ 0) (h : Bld 137 B b [] bs w) (hlen : bs.length + 6 ≤ 140737488355328) (hBw : B ≤ w.heap.size) :
    Calls Tryz.prog 189 #[.pointer (some ⟨b, 0, none⟩), .int .i32 c] w fun e w' => e = .returned (.tuple #[]) ∧ (Bld 137 B b [] (bs ++ Lib.byteCells (escR c)) w' ∧ Below B w w' ∧ Lib.OthersKept 5 (some b) w w') := by
  have HC := Lib.hid (cells_let hl)
  have hr := letOf_range c
  have hn : (letOf c != 0) = true := by simpa using hl
  go_enter Tryz.func189, Tryz.ntmps189
  go_wp2_with ((go_at_call 195); (refine (letterOf_any _ _).mono ?_); rintro e w' ⟨rfl, rfl⟩)
  refine (writeByte_any 92 Fit.plain h (by omega) hBw).mono ?_
  rintro e w1 ⟨rfl, h1, b1, k1⟩
  have hs1 := b1.size
  go_wp2_with fail
  refine (writeRune_any (letOf c) (by omega) (by omega) Fit.plain h1 (by simp; omega) (by omega)).mono ?_
  rintro e w2 ⟨rfl, h2, b2, k2⟩
  go_wp2_with fail
  go_end0
  exact ⟨rfl, by rw [HC.out, ← List.append_assoc]; exact h2, b1.trans b2, k1.trans k2⟩

theorem cells_hex {c : Int} (hl : letOf c = 0) (hc : c < 32 ∨ c = 127) (bs : List Value) : bs ++ Lib.byteCells (escR c) = bs ++ Lib.strCells ⟨#[92, 117, 48, 48]⟩ ++ [.int .u8 (hexD (c / 16).toNat).toNat] ++ [.int .u8 (hexD (c % 16).toNat).toNat] := by
  unfold escR
  rw [if_neg (by simpa using hl), if_pos hc]
  simp [Lib.byteCells, Lib.strCells]

def hexS : ByteArray := ⟨#[48, 49, 50, 51, 52, 53, 54, 55, 56, 57, 97, 98, 99, 100, 101, 102]⟩
theorem hex_at (k : Nat) (h : k < hexS.size) : (hexD k).toNat = (hexS[k]'h).toNat := by
  have h' : k < 16 := h
  match k, h' with
  | 0, _ | 1, _ | 2, _ | 3, _ | 4, _ | 5, _ | 6, _ | 7, _ | 8, _ | 9, _ | 10, _ | 11, _ | 12, _ | 13, _ | 14, _ | 15, _ => rfl
  | (k + 16), h' => omega

set_option maxHeartbeats 1000000 in
theorem writeQuoted_low {B b : Nat} {bs : List Value} {w : World} (c : Int) (hl : letOf c = 0) (hc0 : 0 ≤ c) (hc1 : c < 32) (h : Bld 137 B b [] bs w) (hlen : bs.length + 6 ≤ 140737488355328) (hBw : B ≤ w.heap.size) :
    Calls Tryz.prog 189 #[.pointer (some ⟨b, 0, none⟩), .int .i32 c] w fun e w' => e = .returned (.tuple #[]) ∧ (Bld 137 B b [] (bs ++ Lib.byteCells (escR c)) w' ∧ Below B w w' ∧ Lib.OthersKept 5 (some b) w w') := by
  have HC := Lib.hid (cells_hex hl (.inl hc1) bs)
  have hn : (letOf c != 0) = false := by simp [hl]
  clear hl
  have hd : decide (c < 32) = true := by simpa using hc1
  go_enter Tryz.func189, Tryz.ntmps189
  go_wp2_with ((go_at_call 195); (refine (letterOf_any _ _).mono ?_); rintro e w' ⟨rfl, rfl⟩)
  refine (writeString_any _ Fit.plain h (by show bs.length + 4 ≤ _; omega) hBw).mono ?_
  rintro e w1 ⟨rfl, h1, b1, k1⟩
  have hs1 := b1.size
  go_wp2_with fail
  refine (writeByte_any _ Fit.plain h1 (by simp [Lib.strCells]; omega) (by omega)).mono ?_
  rintro e w2 ⟨rfl, h2, b2, k2⟩
  have hs2 := b2.size
  go_wp2_with fail
  refine (writeByte_any _ Fit.plain h2 (by simp [Lib.strCells]; omega) (by omega)).mono ?_
  rintro e w3 ⟨rfl, h3, b3, k3⟩
  go_wp2_with fail
  go_end0
  refine ⟨rfl, ?_, (b1.trans b2).trans b3, (k1.trans k2).trans k3⟩
  rw [HC.out, hex_at _ (show _ < 16 by omega), hex_at _ (show _ < 16 by omega)]
  exact h3

set_option maxHeartbeats 1000000 in
theorem writeQuoted_127 {B b : Nat} {bs : List Value} {w : World} (h : Bld 137 B b [] bs w) (hlen : bs.length + 6 ≤ 140737488355328) (hBw : B ≤ w.heap.size) :
    Calls Tryz.prog 189 #[.pointer (some ⟨b, 0, none⟩), .int .i32 127] w fun e w' => e = .returned (.tuple #[]) ∧ (Bld 137 B b [] (bs ++ Lib.byteCells (escR 127)) w' ∧ Below B w w' ∧ Lib.OthersKept 5 (some b) w w') := by
  have HC := Lib.hid (cells_hex (c := 127) (by decide) (.inr rfl) bs)
  have hn : (letOf 127 != 0) = false := by decide
  go_enter Tryz.func189, Tryz.ntmps189
  go_wp2_with ((go_at_call 195); (refine (letterOf_any _ _).mono ?_); rintro e w' ⟨rfl, rfl⟩)
  refine (writeString_any _ Fit.plain h (by show bs.length + 4 ≤ _; omega) hBw).mono ?_
  rintro e w1 ⟨rfl, h1, b1, k1⟩
  have hs1 := b1.size
  go_wp2_with fail
  refine (writeByte_any _ Fit.plain h1 (by simp [Lib.strCells]; omega) (by omega)).mono ?_
  rintro e w2 ⟨rfl, h2, b2, k2⟩
  have hs2 := b2.size
  go_wp2_with fail
  refine (writeByte_any _ Fit.plain h2 (by simp [Lib.strCells]; omega) (by omega)).mono ?_
  rintro e w3 ⟨rfl, h3, b3, k3⟩
  go_wp2_with fail
  go_end0
  refine ⟨rfl, ?_, (b1.trans b2).trans b3, (k1.trans k2).trans k3⟩
  rw [HC.out]
  exact h3

set_option maxHeartbeats 1000000 in
theorem writeQuoted_plain {B b : Nat} {bs : List Value} {w : World} (c : Int) (hl : letOf c = 0) (hc0 : 32 ≤ c) (hc1 : c ≤ 1114111) (hc : c ≠ 127) (h : Bld 137 B b [] bs w) (hlen : bs.length + 6 ≤ 140737488355328) (hBw : B ≤ w.heap.size) :
    Calls Tryz.prog 189 #[.pointer (some ⟨b, 0, none⟩), .int .i32 c] w fun e w' => e = .returned (.tuple #[]) ∧ (Bld 137 B b [] (bs ++ Lib.byteCells (escR c)) w' ∧ Below B w w' ∧ Lib.OthersKept 5 (some b) w w') := by
  have HC := Lib.hid (show Lib.byteCells (escR c) = Lib.runeCells c by unfold escR; rw [if_neg (by simpa using hl), if_neg (by omega), Lib.byteCells_encodeRune])
  have hn : (letOf c != 0) = false := by simp [hl]
  have hd : decide (c < 32) = false := by simpa using hc0
  have he : (c == 127) = false := by simpa using hc
  clear hl hc
  go_enter Tryz.func189, Tryz.ntmps189
  go_wp2_with ((go_at_call 195); (refine (letterOf_any _ _).mono ?_); rintro e w' ⟨rfl, rfl⟩)
  refine (writeRune_any c (by omega) (by omega) Fit.plain h (by omega) hBw).mono ?_
  rintro e w1 ⟨rfl, h1, b1, k1⟩
  go_wp2_with fail
  go_end0
  exact ⟨rfl, by rw [HC.out]; exact h1, b1, k1⟩

theorem writeQuoted_any {B b : Nat} {bs : List Value} {w : World} (c : Int) (hc0 : 0 ≤ c) (hc1 : c ≤ 1114111) (h : Bld 137 B b [] bs w) (hlen : bs.length + 6 ≤ 140737488355328) (hBw : B ≤ w.heap.size) :
    Calls Tryz.prog 189 #[.pointer (some ⟨b, 0, none⟩), .int .i32 c] w fun e w' => e = .returned (.tuple #[]) ∧ (Bld 137 B b [] (bs ++ Lib.byteCells (escR c)) w' ∧ Below B w w' ∧ Lib.OthersKept 5 (some b) w w') := by
  by_cases hl : letOf c = 0
  · by_cases h32 : c < 32
    · exact writeQuoted_low c hl hc0 h32 h hlen hBw
    · by_cases h127 : c = 127
      · subst h127
        exact writeQuoted_127 h hlen hBw
      · exact writeQuoted_plain c hl (by omega) hc1 h127 h hlen hBw
  · exact writeQuoted_let c hl h hlen hBw

def StrBelow (w : World) (l : List UInt8) (e : Ending) (w' : World) : Prop := e = .returned (.string ⟨l.toArray⟩) ∧ Below w.heap.size w w'

theorem strBelow_mk {w w' : World} {l l' : List UInt8} (h : l = l') (hb : Below w.heap.size w w') : StrBelow w l' (.returned (.string ⟨l.toArray⟩)) w' := by
  subst h; exact ⟨rfl, hb⟩

theorem decode_rune_le (s : ByteArray) (pos : Nat) : (Utf8.decode s pos).1 ≤ 1114111 := by
  rw [← Lib.decodeL_drop]; exact Lib.decodeL_rune _

theorem badAt_of_valid (l : List UInt8) (hne : l ≠ []) (h : Lib.validD l = true) : badAt l = false := by
  cases hb : badAt l with
  | false => rfl
  | true => rw [validD_bad l hne hb] at h; cases h

/-- The loop's relation in runes.Quote: the builder in block B, the iterator in block k. -/
def QuoteRel (s : ByteArray) (w : World) (B k : Nat) (wr : World) : Prop :=
  ∃ (pos : Nat) (acc : List UInt8), Bld 137 B B [] (Lib.byteCells acc) wr ∧ wr.heap[k]? = some (.stringIter s pos) ∧ Below w.heap.size w wr ∧ Lib.validD (s.data.toList.drop pos) = true ∧ 34 :: quoteIn s.data.toList = acc ++ quoteIn (s.data.toList.drop pos)

set_option maxHeartbeats 1000000 in
theorem quote_any (s : ByteArray) (w : World) (hs : s.size ≤ 1000000000) :
    Calls Tryz.prog 179 #[.string s] w (StrBelow w (quoteB s.data.toList)) := by
  by_cases hv : Lib.validD s.data.toList = true
  · have HQ := Lib.hid (show quoteB s.data.toList = 34 :: (quoteIn s.data.toList ++ [34]) by unfold quoteB; rw [if_pos hv])
    go_enter Tryz.func179, Tryz.ntmps179
    go_wp2_with ((go_at_call 116); (refine (valid_any _ _).mono ?_); rintro e w1 ⟨rfl, b1⟩)
    refine (writeByte_any 34 Fit.plain (Bld.fresh 137 [] w1) (by simp) (by simp)).mono ?_
    rintro e w2 ⟨rfl, h2, b2, k2⟩
    have hs1 := b1.size
    have hs2 := b2.size
    simp only [World.size_alloc] at hs2
    have hk : w1.heap.size < w2.heap.size := by omega
    have hbw : Below w.heap.size w w2 := (b1.alloc (by omega) _).trans (b2.mono (by omega))
    have HV := Lib.hid hv
    clear hv
    go_wp2_with fail
    go_loopw [] (fun wr => QuoteRel s w w1.heap.size w2.heap.size wr) (fun wr => s.size - wr.iterPos w2.heap.size)
    case atStart =>
      exact ⟨0, [34], h2.alloc _, World.iter_heap w2 s 0, hbw.alloc (by omega) _, HV.out, rfl⟩
    case round =>
      obtain ⟨pos, acc, hB, hit, hbr, hva, hacc⟩ := hrel
      have HVA := Lib.hid hva
      have HACC := Lib.hid hacc
      clear hva hacc
      have hlt := hB.lt
      by_cases hp : pos < s.size
      · have hnx : ∀ ty, (Instr.next (.pointer (some ⟨w2.heap.size, 0, none⟩)) true ty).run Tryz.prog wr = _ := fun ty => Lib.run_next_any_at wr w2.heap.size s pos ty hit hp
        have HW := Lib.hid (show 1 ≤ (Utf8.decode s pos).2 by rw [← Lib.decodeL_drop]; exact Lib.decodeL_width _)
        have hrl := decode_rune_le s pos
        have hbr2 := Lib.below_iterAt hbr (k := w2.heap.size) (by omega) s (pos + (Utf8.decode s pos).2)
        have HI := Lib.hid (Lib.iterAt_heap wr w2.heap.size s pos (pos + (Utf8.decode s pos).2) hit)
        have HT := Lib.hid hit
        have hB2 := hB.iterAt hit (pos + (Utf8.decode s pos).2)
        have hlt2 := hB2.lt
        have hal : acc.length + 6 ≤ 140737488355328 := by
          have e := congrArg List.length HACC.out
          have q := quoteIn_len s.data.toList
          have z : s.data.toList.length = s.size := rfl
          rw [List.length_cons, List.length_append] at e
          omega
        have HB := Lib.hid (badAt_of_valid _ (drop_ne s pos hp) HVA.out)
        go_wp2_with fail
        refine (writeQuoted_any _ (by omega) (by omega) hB2 (by rw [Lib.byteCells_length]; exact hal) (by omega)).mono ?_
        rintro e w4 ⟨rfl, h4, b4, k4⟩
        go_wp2_with fail
        go_roundw
        case rel =>
          refine ⟨pos + (Utf8.decode s pos).2, acc ++ escR (Utf8.decode s pos).1, ?_, k4.iter HI.out (by omega), hbr2.trans (b4.mono (by omega)), ?_, ?_⟩
          · rw [Lib.byteCells_append]; exact h4
          · rw [← valid_next s pos hp HB.out]; exact HVA.out
          · rw [HACC.out, esc_step _ (drop_ne s pos hp) HB.out, Lib.decodeL_drop, List.append_assoc, List.drop_drop]
        case measure =>
          have e1 := iterPos_of (k4.iter HI.out (by omega))
          have e2 := iterPos_of HT.out
          have e3 := HW.out
          omega
      · have hnx : ∀ ty, (Instr.next (.pointer (some ⟨w2.heap.size, 0, none⟩)) true ty).run Tryz.prog wr = _ := fun ty => Lib.run_next_end_at wr w2.heap.size s pos ty hit hp
        have hal : acc.length + 6 ≤ 140737488355328 := by
          have e := congrArg List.length HACC.out
          have q := quoteIn_len s.data.toList
          have z : s.data.toList.length = s.size := rfl
          rw [List.length_cons, List.length_append] at e
          omega
        go_wp2_with fail
        refine (writeByte_any 34 Fit.plain hB (by rw [Lib.byteCells_length]; omega) (by omega)).mono ?_
        rintro e w4 ⟨rfl, h4, b4, k4⟩
        have hs4 := b4.size
        have h5 : Bld 137 w1.heap.size w1.heap.size [] (Lib.byteCells (acc ++ [34])) w4 := by rw [Lib.byteCells_append]; exact h4
        go_wp2_with fail
        refine (string_any _ h5 (by omega)).mono ?_
        rintro e w5 ⟨rfl, b5⟩
        go_wp2_with fail
        go_ret
        refine strBelow_mk ?_ ((hbr.trans (b4.mono (by omega))).trans (b5.mono (by omega)))
        have e := HACC.out
        rw [drop_end s pos hp] at e
        rw [HQ.out, ← List.cons_append, e]
        simp [quoteIn]
  · have HQ := Lib.hid (show quoteB s.data.toList = [] by unfold quoteB; rw [if_neg hv])
    have hv' : Lib.validD s.data.toList = false := by simpa using hv
    clear hv
    go_enter Tryz.func179, Tryz.ntmps179
    go_wp2_with ((go_at_call 116); (refine (valid_any _ _).mono ?_); rintro e w1 ⟨rfl, b1⟩)
    go_ret
    exact strBelow_mk (l := []) (by rw [HQ.out]) b1

end Go.Proofs.YtibkncgfdhflgaaGreatDoor
