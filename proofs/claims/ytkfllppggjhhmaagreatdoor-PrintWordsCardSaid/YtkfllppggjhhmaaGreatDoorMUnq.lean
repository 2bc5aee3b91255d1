/-
  What runes.writeQuoted and runes.Quote answer.
-/
import Derived.Test.YtkfllppggjhhmaaGreatDoorMSmall
namespace Go.Proofs.YtkfllppggjhhmaaGreatDoor
open Go.RowKit

theorem cells_let {c : Int} (h : letOf c ≠ 0) : Lib.byteCells (escR c) = [Value.int .u8 92] ++ Lib.runeCells (letOf c) := by
  have hr := letOf_range c
  unfold escR
  rw [if_pos h]
  unfold Lib.runeCells
  rw [Lib.encodeRuneZ_one (by omega) (by omega)]
  simp [Lib.byteCells]
  omega

set_option maxHeartbeats 1000000 in
theorem writeQuoted_let {B b : Nat} {bs : List Value} {w : World} (c : Int) (hl : letOf c ≠ 0) (h : Bld 81 B b [] bs w) (hlen : bs.length + 6 ≤ 140737488355328) (hBw : B ≤ w.heap.size) :
    Calls Tryz.prog 320 #[.pointer (some ⟨b, 0, none⟩), .int .i32 c] w fun e w' => e = .returned (.tuple #[]) ∧ (Bld 81 B b [] (bs ++ Lib.byteCells (escR c)) w' ∧ Below B w w' ∧ Lib.OthersKept 5 (some b) w w') := by
  have HC := Lib.hid (cells_let hl)
  have hr := letOf_range c
  have hn : (letOf c != 0) = true := by simpa using hl
  go_enter Tryz.func320, Tryz.ntmps320
  go_wp2_with ((go_at_call 326); (refine (letterOf_any _ _).mono ?_); rintro e w' ⟨rfl, rfl⟩)
  refine (writeByte_any 92 Fit.plain h (by omega) hBw).mono ?_
  rintro e w1 ⟨rfl, h1, b1, k1⟩
  have hs1 := b1.size
  go_wp2_with fail
  refine (writeRune_any (letOf c) (by omega) (by omega) Fit.plain h1 (by simp; omega) (by omega)).mono ?_
  rintro e w2 ⟨rfl, h2, b2, k2⟩
  go_wp2_with fail
  go_end0
  exact ⟨rfl, by rw [HC.out, ← List.append_assoc]; exact h2, b1.trans b2, k1.trans k2⟩

theorem cells_hex {c : Int} (hl : letOf c = 0) (hc : c < 32 ∨ c = 127) (bs : List Value) : bs ++ Lib.byteCells (escR c) = bs ++ Lib.strCells ⟨#[92, 117, 48, 48]⟩ ++ [.int .u8 (hexD (c / 16).toNat).toNat] ++ [.int .u8 (hexD (c % 16).toNat).toNat] := by
  unfold escR
  rw [if_neg (by simpa using hl), if_pos hc]
  simp [Lib.byteCells, Lib.strCells]

def hexS : ByteArray := ⟨#[48, 49, 50, 51, 52, 53, 54, 55, 56, 57, 97, 98, 99, 100, 101, 102]⟩
theorem hex_at (k : Nat) (h : k < hexS.size) : (hexD k).toNat = (hexS[k]'h).toNat := by
  have h' : k < 16 := h
  match k, h' with
  | 0, _ | 1, _ | 2, _ | 3, _ | 4, _ | 5, _ | 6, _ | 7, _ | 8, _ | 9, _ | 10, _ | 11, _ | 12, _ | 13, _ | 14, _ | 15, _ => rfl
  | (k + 16), h' => omega

set_option maxHeartbeats 1000000 in
theorem writeQuoted_low {B b : Nat} {bs : List Value} {w : World} (c : Int) (hl : letOf c = 0) (hc0 : 0 ≤ c) (hc1 : c < 32) (h : Bld 81 B b [] bs w) (hlen : bs.length + 6 ≤ 140737488355328) (hBw : B ≤ w.heap.size) :
    Calls Tryz.prog 320 #[.pointer (some ⟨b, 0, none⟩), .int .i32 c] w fun e w' => e = .returned (.tuple #[]) ∧ (Bld 81 B b [] (bs ++ Lib.byteCells (escR c)) w' ∧ Below B w w' ∧ Lib.OthersKept 5 (some b) w w') := by
  have HC := Lib.hid (cells_hex hl (.inl hc1) bs)
  have hn : (letOf c != 0) = false := by simp [hl]
  clear hl
  have hd : decide (c < 32) = true := by simpa using hc1
  go_enter Tryz.func320, Tryz.ntmps320
  go_wp2_with ((go_at_call 326); (refine (letterOf_any _ _).mono ?_); rintro e w' ⟨rfl, rfl⟩)
  refine (writeString_any _ Fit.plain h (by show bs.length + 4 ≤ _; omega) hBw).mono ?_
  rintro e w1 ⟨rfl, h1, b1, k1⟩
  have hs1 := b1.size
  go_wp2_with fail
  refine (writeByte_any _ Fit.plain h1 (by simp [Lib.strCells]; omega) (by omega)).mono ?_
  rintro e w2 ⟨rfl, h2, b2, k2⟩
  have hs2 := b2.size
  go_wp2_with fail
  refine (writeByte_any _ Fit.plain h2 (by simp [Lib.strCells]; omega) (by omega)).mono ?_
  rintro e w3 ⟨rfl, h3, b3, k3⟩
  go_wp2_with fail
  go_end0
  refine ⟨rfl, ?_, (b1.trans b2).trans b3, (k1.trans k2).trans k3⟩
  rw [HC.out, hex_at _ (show _ < 16 by omega), hex_at _ (show _ < 16 by omega)]
  exact h3

set_option maxHeartbeats 1000000 in
theorem writeQuoted_127 {B b : Nat} {bs : List Value} {w : World} (h : Bld 81 B b [] bs w) (hlen : bs.length + 6 ≤ 140737488355328) (hBw : B ≤ w.heap.size) :
    Calls Tryz.prog 320 #[.pointer (some ⟨b, 0, none⟩), .int .i32 127] w fun e w' => e = .returned (.tuple #[]) ∧ (Bld 81 B b [] (bs ++ Lib.byteCells (escR 127)) w' ∧ Below B w w' ∧ Lib.OthersKept 5 (some b) w w') := by
  have HC := Lib.hid (cells_hex (c := 127) (by decide) (.inr rfl) bs)
  have hn : (letOf 127 != 0) = false := by decide
  go_enter Tryz.func320, Tryz.ntmps320
  go_wp2_with ((go_at_call 326); (refine (letterOf_any _ _).mono ?_); rintro e w' ⟨rfl, rfl⟩)
  refine (writeString_any _ Fit.plain h (by show bs.length + 4 ≤ _; omega) hBw).mono ?_
  rintro e w1 ⟨rfl, h1, b1, k1⟩
  have hs1 := b1.size
  go_wp2_with fail
  refine (writeByte_any _ Fit.plain h1 (by simp [Lib.strCells]; omega) (by omega)).mono ?_
  rintro e w2 ⟨rfl, h2, b2, k2⟩
  have hs2 := b2.size
  go_wp2_with fail
  refine (writeByte_any _ Fit.plain h2 (by simp [Lib.strCells]; omega) (by omega)).mono ?_
  rintro e w3 ⟨rfl, h3, b3, k3⟩
  go_wp2_with fail
  go_end0
  refine ⟨rfl, ?_, (b1.trans b2).trans b3, (k1.trans k2).trans k3⟩
  rw [HC.out]
  exact h3

set_option maxHeartbeats 1000000 in
theorem writeQuoted_plain {B b : Nat} {bs : List Value} {w : World} (c : Int) (hl : letOf c = 0) (hc0 : 32 ≤ c) (hc1 : c ≤ 1114111) (hc : c ≠ 127) (h : Bld 81 B b [] bs w) (hlen : bs.length + 6 ≤ 140737488355328) (hBw : B ≤ w.heap.size) :
    Calls Tryz.prog 320 #[.pointer (some ⟨b, 0, none⟩), .int .i32 c] w fun e w' => e = .returned (.tuple #[]) ∧ (Bld 81 B b [] (bs ++ Lib.byteCells (escR c)) w' ∧ Below B w w' ∧ Lib.OthersKept 5 (some b) w w') := by
  have HC := Lib.hid (show Lib.byteCells (escR c) = Lib.runeCells c by unfold escR; rw [if_neg (by simpa using hl), if_neg (by omega), Lib.byteCells_encodeRune])
  have hn : (letOf c != 0) = false := by simp [hl]
  have hd : decide (c < 32) = false := by simpa using hc0
  have he : (c == 127) = false := by simpa using hc
  clear hl hc
  go_enter Tryz.func320, Tryz.ntmps320
  go_wp2_with ((go_at_call 326); (refine (letterOf_any _ _).mono ?_); rintro e w' ⟨rfl, rfl⟩)
  refine (writeRune_any c (by omega) (by omega) Fit.plain h (by omega) hBw).mono ?_
  rintro e w1 ⟨rfl, h1, b1, k1⟩
  go_wp2_with fail
  go_end0
  exact ⟨rfl, by rw [HC.out]; exact h1, b1, k1⟩

theorem writeQuoted_any {B b : Nat} {bs : List Value} {w : World} (c : Int) (hc0 : 0 ≤ c) (hc1 : c ≤ 1114111) (h : Bld 81 B b [] bs w) (hlen : bs.length + 6 ≤ 140737488355328) (hBw : B ≤ w.heap.size) :
    Calls Tryz.prog 320 #[.pointer (some ⟨b, 0, none⟩), .int .i32 c] w fun e w' => e = .returned (.tuple #[]) ∧ (Bld 81 B b [] (bs ++ Lib.byteCells (escR c)) w' ∧ Below B w w' ∧ Lib.OthersKept 5 (some b) w w') := by
  by_cases hl : letOf c = 0
  · by_cases h32 : c < 32
    · exact writeQuoted_low c hl hc0 h32 h hlen hBw
    · by_cases h127 : c = 127
      · subst h127
        exact writeQuoted_127 h hlen hBw
      · exact writeQuoted_plain c hl (by omega) hc1 h127 h hlen hBw
  · exact writeQuoted_let c hl h hlen hBw

def StrBelow (w : World) (l : List UInt8) (e : Ending) (w' : World) : Prop := e = .returned (.string ⟨l.toArray⟩) ∧ Below w.heap.size w w'

theorem strBelow_mk {w w' : World} {l l' : List UInt8} (h : l = l') (hb : Below w.heap.size w w') : StrBelow w l' (.returned (.string ⟨l.toArray⟩)) w' := by
  subst h; exact ⟨rfl, hb⟩

theorem decode_rune_le (s : ByteArray) (pos : Nat) : (Utf8.decode s pos).1 ≤ 1114111 := by
  rw [← Lib.decodeL_drop]; exact Lib.decodeL_rune _

theorem badAt_of_valid (l : List UInt8) (hne : l ≠ []) (h : Lib.validD l = true) : badAt l = false := by
  cases hb : badAt l with
  | false => rfl
  | true => rw [validD_bad l hne hb] at h; cases h

/-- The loop's relation in runes.Quote: the builder in block B, the iterator in block k. -/
def QuoteRel (s : ByteArray) (w : World) (B k : Nat) (wr : World) : Prop :=
  ∃ (pos : Nat) (acc : List UInt8), Bld 81 B B [] (Lib.byteCells acc) wr ∧ wr.heap[k]? = some (.stringIter s pos) ∧ Below w.heap.size w wr ∧ Lib.validD (s.data.toList.drop pos) = true ∧ 34 :: quoteIn s.data.toList = acc ++ quoteIn (s.data.toList.drop pos)

set_option maxHeartbeats 1000000 in
theorem quote_any (s : ByteArray) (w : World) (hs : s.size ≤ 1000000000) :
    Calls Tryz.prog 309 #[.string s] w (StrBelow w (quoteB s.data.toList)) := by
  by_cases hv : Lib.validD s.data.toList = true
  · have HQ := Lib.hid (show quoteB s.data.toList = 34 :: (quoteIn s.data.toList ++ [34]) by unfold quoteB; rw [if_pos hv])
    go_enter Tryz.func309, Tryz.ntmps309
    go_wp2_with ((go_at_call 231); (refine (valid_any _ _).mono ?_); rintro e w1 ⟨rfl, b1⟩)
    refine (writeByte_any 34 Fit.plain (Bld.fresh 81 [] w1) (by simp) (by simp)).mono ?_
    rintro e w2 ⟨rfl, h2, b2, k2⟩
    have hs1 := b1.size
    have hs2 := b2.size
    simp only [World.size_alloc] at hs2
    have hk : w1.heap.size < w2.heap.size := by omega
    have hbw : Below w.heap.size w w2 := (b1.alloc (by omega) _).trans (b2.mono (by omega))
    have HV := Lib.hid hv
    clear hv
    go_wp2_with fail
    go_loopw [] (fun wr => QuoteRel s w w1.heap.size w2.heap.size wr) (fun wr => s.size - wr.iterPos w2.heap.size)
    case atStart =>
      exact ⟨0, [34], h2.alloc _, World.iter_heap w2 s 0, hbw.alloc (by omega) _, HV.out, rfl⟩
    case round =>
      obtain ⟨pos, acc, hB, hit, hbr, hva, hacc⟩ := hrel
      have HVA := Lib.hid hva
      have HACC := Lib.hid hacc
      clear hva hacc
      have hlt := hB.lt
      by_cases hp : pos < s.size
      · have hnx : ∀ ty, (Instr.next (.pointer (some ⟨w2.heap.size, 0, none⟩)) true ty).run Tryz.prog wr = _ := fun ty => Lib.run_next_any_at wr w2.heap.size s pos ty hit hp
        have HW := Lib.hid (show 1 ≤ (Utf8.decode s pos).2 by rw [← Lib.decodeL_drop]; exact Lib.decodeL_width _)
        have hrl := decode_rune_le s pos
        have hbr2 := Lib.below_iterAt hbr (k := w2.heap.size) (by omega) s (pos + (Utf8.decode s pos).2)
        have HI := Lib.hid (Lib.iterAt_heap wr w2.heap.size s pos (pos + (Utf8.decode s pos).2) hit)
        have HT := Lib.hid hit
        have hB2 := hB.iterAt hit (pos + (Utf8.decode s pos).2)
        have hlt2 := hB2.lt
        have hal : acc.length + 6 ≤ 140737488355328 := by
          have e := congrArg List.length HACC.out
          have q := quoteIn_len s.data.toList
          have z : s.data.toList.length = s.size := rfl
          rw [List.length_cons, List.length_append] at e
          omega
        have HB := Lib.hid (badAt_of_valid _ (drop_ne s pos hp) HVA.out)
        go_wp2_with fail
        refine (writeQuoted_any _ (by omega) (by omega) hB2 (by rw [Lib.byteCells_length]; exact hal) (by omega)).mono ?_
        rintro e w4 ⟨rfl, h4, b4, k4⟩
        go_wp2_with fail
        go_roundw
        case rel =>
          refine ⟨pos + (Utf8.decode s pos).2, acc ++ escR (Utf8.decode s pos).1, ?_, k4.iter HI.out (by omega), hbr2.trans (b4.mono (by omega)), ?_, ?_⟩
          · rw [Lib.byteCells_append]; exact h4
          · rw [← valid_next s pos hp HB.out]; exact HVA.out
          · rw [HACC.out, esc_step _ (drop_ne s pos hp) HB.out, Lib.decodeL_drop, List.append_assoc, List.drop_drop]
        case measure =>
          have e1 := iterPos_of (k4.iter HI.out (by omega))
          have e2 := iterPos_of HT.out
          have e3 := HW.out
          omega
      · have hnx : ∀ ty, (Instr.next (.pointer (some ⟨w2.heap.size, 0, none⟩)) true ty).run Tryz.prog wr = _ := fun ty => Lib.run_next_end_at wr w2.heap.size s pos ty hit hp
        have hal : acc.length + 6 ≤ 140737488355328 := by
          have e := congrArg List.length HACC.out
          have q := quoteIn_len s.data.toList
          have z : s.data.toList.length = s.size := rfl
          rw [List.length_cons, List.length_append] at e
          omega
        go_wp2_with fail
        refine (writeByte_any 34 Fit.plain hB (by rw [Lib.byteCells_length]; omega) (by omega)).mono ?_
        rintro e w4 ⟨rfl, h4, b4, k4⟩
        have hs4 := b4.size
        have h5 : Bld 81 w1.heap.size w1.heap.size [] (Lib.byteCells (acc ++ [34])) w4 := by rw [Lib.byteCells_append]; exact h4
        go_wp2_with fail
        refine (string_any _ h5 (by omega)).mono ?_
        rintro e w5 ⟨rfl, b5⟩
        go_wp2_with fail
        go_ret
        refine strBelow_mk ?_ ((hbr.trans (b4.mono (by omega))).trans (b5.mono (by omega)))
        have e := HACC.out
        rw [drop_end s pos hp] at e
        rw [HQ.out, ← List.cons_append, e]
        simp [quoteIn]
  · have HQ := Lib.hid (show quoteB s.data.toList = [] by unfold quoteB; rw [if_neg hv])
    have hv' : Lib.validD s.data.toList = false := by simpa using hv
    clear hv
    go_enter Tryz.func309, Tryz.ntmps309
    go_wp2_with ((go_at_call 231); (refine (valid_any _ _).mono ?_); rintro e w1 ⟨rfl, b1⟩)
    go_ret
    exact strBelow_mk (l := []) (by rw [HQ.out]) b1

end Go.Proofs.YtkfllppggjhhmaaGreatDoor
/-
  What runes.Unquote's parts answer: digitOf, pointOf, isFirstHalf, isSecondHalf, and the reader's methods.
-/
namespace Go.Proofs.YtkfllppggjhhmaaGreatDoor
open Go.RowKit

def hexV (c : Int) : Int := if 48 ≤ c ∧ c ≤ 57 then c - 48 else if 97 ≤ c ∧ c ≤ 102 then c - 87 else if 65 ≤ c ∧ c ≤ 70 then c - 55 else -1
def ptOf (c : Int) : Int := if c = 34 ∨ c = 92 ∨ c = 47 then c else if c = 98 then 8 else if c = 116 then 9 else if c = 110 then 10 else if c = 102 then 12 else if c = 114 then 13 else 0
def half1 (c : Int) : Bool := decide (55296 ≤ c ∧ c ≤ 56319)
def half2 (c : Int) : Bool := decide (56320 ≤ c ∧ c ≤ 57343)

theorem hexV_range (c : Int) : -1 ≤ hexV c ∧ hexV c ≤ 15 := by
  unfold hexV
  repeat' split
  all_goals omega
theorem ptOf_range (c : Int) : 0 ≤ ptOf c ∧ ptOf c ≤ 127 := by
  unfold ptOf
  repeat' split
  all_goals omega

set_option maxHeartbeats 1000000 in
theorem digitOf_any (c : Int) (w : World) (h0 : -2147483648 ≤ c) (h1 : c ≤ 2147483647) :
    Calls Tryz.prog 298 #[.int .i32 c] w fun e w' => e = .returned (.int .i32 (hexV c)) ∧ w = w' := by
  go_enter Tryz.func298, Tryz.ntmps298
  go_wp2
  all_goals
    go_ret
    refine ⟨ret_i32 ?_, rfl⟩
    unfold hexV
    repeat' split
    all_goals first | omega | (simp at *; omega)

set_option maxHeartbeats 1000000 in
theorem pointOf_any (c : Int) (w : World) :
    Calls Tryz.prog 300 #[.int .i32 c] w fun e w' => e = .returned (.int .i32 (ptOf c)) ∧ w = w' := by
  go_enter Tryz.func300, Tryz.ntmps300
  go_wp2
  all_goals
    go_ret
    refine ⟨ret_i32 ?_, rfl⟩
    simp only [beq_iff_eq, beq_eq_false_iff_ne, ne_eq] at *
    simp [ptOf, *]

set_option maxHeartbeats 1000000 in
theorem isFirstHalf_any (c : Int) (w : World) :
    Calls Tryz.prog 313 #[.int .i32 c] w fun e w' => e = .returned (.bool (half1 c)) ∧ w = w' := by
  go_enter Tryz.func313, Tryz.ntmps313
  go_wp2
  all_goals
    go_ret
    refine ⟨ret_bool ?_, rfl⟩
    rw [Bool.eq_iff_iff]
    simp [half1]
    try omega

set_option maxHeartbeats 1000000 in
theorem isSecondHalf_any (c : Int) (w : World) :
    Calls Tryz.prog 311 #[.int .i32 c] w fun e w' => e = .returned (.bool (half2 c)) ∧ w = w' := by
  go_enter Tryz.func311, Tryz.ntmps311
  go_wp2
  all_goals
    go_ret
    refine ⟨ret_bool ?_, rfl⟩
    rw [Bool.eq_iff_iff]
    simp [half2]
    try omega

/-- The reader, as data. -/
structure St where
  out : List UInt8
  esc : Bool
  digits : Int
  code : Int
  first : Int

def St.put (s : St) (c : Int) : Option St := if s.first = 0 then some { s with out := s.out ++ Lib.encodeRune c } else none
def St.join (s : St) : Option St := if s.first = 0 then none else some { s with first := 0, out := s.out ++ Lib.encodeRune (65536 + (s.first - 55296) * 1024 + (s.code - 56320)) }
def St.takeCode (s : St) : Option St := if half2 s.code then s.join else if half1 s.code then (if s.first = 0 then some { s with first := s.code } else none) else s.put s.code
def St.takeDigit (s : St) (c : Int) : Option St := if hexV c < 0 then none else if 1 < s.digits then some { s with code := s.code * 16 + hexV c, digits := s.digits - 1 } else St.takeCode { s with code := s.code * 16 + hexV c, digits := s.digits - 1 }
def St.takeLetter (s : St) (c : Int) : Option St := if c = 117 then some { s with esc := false, digits := 4, code := 0 } else if ptOf c = 0 then none else St.put { s with esc := false } (ptOf c)
def St.take (s : St) (c : Int) : Option St := if 0 < s.digits then s.takeDigit c else if s.esc then s.takeLetter c else if c = 92 then some { s with esc := true } else if c < 32 ∨ c = 34 then none else s.put c
def St.whole (s : St) : Bool := !s.esc && decide (s.digits = 0) && decide (s.first = 0)

/-- What the reader's numbers keep to. -/
structure St.Ok (s : St) : Prop where
  d0 : 0 ≤ s.digits
  d4 : s.digits ≤ 4
  c0 : 0 ≤ s.code
  c1 : s.code < 65536
  c2 : (s.digits = 4 → s.code = 0) ∧ (s.digits = 3 → s.code < 16) ∧ (s.digits = 2 → s.code < 256) ∧ (s.digits = 1 → s.code < 4096)
  f : s.first = 0 ∨ (55296 ≤ s.first ∧ s.first ≤ 56319)

def St.rest (s : St) : List Value := [.bool s.esc, .int .i64 s.digits, .int .i32 s.code, .int .i32 s.first]
/-- The reader in block b. -/
def RdR (B b : Nat) (s : St) (w : World) : Prop := Bld 270 B b s.rest (Lib.byteCells s.out) w

/-- What a method of the reader answers. -/
def RdPost (B b : Nat) (w : World) (o : Option St) (e : Ending) (w' : World) : Prop :=
  Below B w w' ∧ match o with
    | some s => e = .returned (.bool true) ∧ RdR B b s w' ∧ Lib.OthersKept 5 (some b) w w'
    | none => e = .returned (.bool false)

theorem rd_cells {B b : Nat} {s : St} {w : World} (h : RdR B b s w) : w.cell? ⟨b, 2, none⟩ = some (.bool s.esc) ∧ w.cell? ⟨b, 3, none⟩ = some (.int .i64 s.digits) ∧ w.cell? ⟨b, 4, none⟩ = some (.int .i32 s.code) ∧ w.cell? ⟨b, 5, none⟩ = some (.int .i32 s.first) :=
  ⟨Bld.cellAt h 0, Bld.cellAt h 1, Bld.cellAt h 2, Bld.cellAt h 3⟩
theorem rd_frozen {B b : Nat} {s : St} {w : World} (h : RdR B b s w) : w.frozen? ⟨b, 2, none⟩ = false ∧ w.frozen? ⟨b, 3, none⟩ = false ∧ w.frozen? ⟨b, 4, none⟩ = false ∧ w.frozen? ⟨b, 5, none⟩ = false :=
  ⟨Bld.frozenAt h _, Bld.frozenAt h _, Bld.frozenAt h _, Bld.frozenAt h _⟩

theorem rdPost_no {B b : Nat} {w w' : World} {o : Option St} (h : o = none) (hb : Below B w w') : RdPost B b w o (.returned (.bool false)) w' := by subst h; exact ⟨hb, rfl⟩
theorem rdPost_yes {B b : Nat} {w w' : World} {o : Option St} {s : St} (h : o = some s) (hb : Below B w w') (hr : RdR B b s w') (hk : Lib.OthersKept 5 (some b) w w') : RdPost B b w o (.returned (.bool true)) w' := by subst h; exact ⟨hb, rfl, hr, hk⟩

set_option maxHeartbeats 1000000 in
theorem put_any {B b : Nat} {s : St} {w : World} (c : Int) (hc0 : -2147483648 ≤ c) (hc1 : c ≤ 2147483647) (h : RdR B b s w) (hlen : s.out.length + 4 ≤ 140737488355328) (hBw : B ≤ w.heap.size) :
    Calls Tryz.prog 275 #[.pointer (some ⟨b, 0, none⟩), .int .i32 c] w (RdPost B b w (s.put c)) := by
  obtain ⟨x2, x3, x4, x5⟩ := rd_cells h
  by_cases hf : s.first = 0
  · have hf' : (s.first != 0) = false := by simp [hf]
    have HP := Lib.hid (show s.put c = some { s with out := s.out ++ Lib.encodeRune c } by unfold St.put; rw [if_pos hf])
    clear hf
    go_enter Tryz.func275, Tryz.ntmps275
    go_wp2_with fail
    refine (writeRune_any c hc0 hc1 Fit.reader h (by rw [Lib.byteCells_length]; exact hlen) hBw).mono ?_
    rintro e w1 ⟨rfl, h1, b1, k1⟩
    go_wp2_with fail
    go_ret
    refine rdPost_yes HP.out b1 ?_ k1
    unfold RdR
    rw [Lib.byteCells_append, Lib.byteCells_encodeRune]
    exact h1
  · have hf' : (s.first != 0) = true := by simpa using hf
    have HP := Lib.hid (show s.put c = none by unfold St.put; rw [if_neg hf])
    clear hf
    go_enter Tryz.func275, Tryz.ntmps275
    go_wp2_with fail
    go_ret
    exact rdPost_no HP.out (Below.refl _ _)

theorem rd_setEsc {B b : Nat} {s : St} {w : World} (h : RdR B b s w) (q : Bool) : RdR B b { s with esc := q } (w.setCell ⟨b, 2, none⟩ (.bool q)) := Bld.put h 0 (.bool q)
theorem rd_setDigits {B b : Nat} {s : St} {w : World} (h : RdR B b s w) (q : Int) : RdR B b { s with digits := q } (w.setCell ⟨b, 3, none⟩ (.int .i64 q)) := Bld.put h 1 (.int .i64 q)
theorem rd_setCode {B b : Nat} {s : St} {w : World} (h : RdR B b s w) (q : Int) : RdR B b { s with code := q } (w.setCell ⟨b, 4, none⟩ (.int .i32 q)) := Bld.put h 2 (.int .i32 q)
theorem rd_setFirst {B b : Nat} {s : St} {w : World} (h : RdR B b s w) (q : Int) : RdR B b { s with first := q } (w.setCell ⟨b, 5, none⟩ (.int .i32 q)) := Bld.put h 3 (.int .i32 q)
theorem rd_le {B b : Nat} {s : St} {w : World} (h : RdR B b s w) : B ≤ b := h.elim (fun x => x.1) (fun x => x.1)
theorem rd_below {B b : Nat} {s : St} {a w : World} (h : RdR B b s w) (hb : Below B a w) (j : Nat) (q : Value) : Below B a (w.setCell ⟨b, j, none⟩ q) := hb.setCell (p := ⟨b, j, none⟩) (rd_le h) q
theorem rd_kept {b : Nat} {a w : World} (hk : Lib.OthersKept 5 (some b) a w) (j : Nat) (q : Value) : Lib.OthersKept 5 (some b) a (w.setCell ⟨b, j, none⟩ q) := hk.setCell ⟨b, j, none⟩ rfl q

/-- One method hands on what another one answers. -/
theorem rdPost_next {B b : Nat} {w w1 w2 : World} {o o' : Option St} {e : Ending} (h : RdPost B b w1 o e w2) (ho : o = o') (hb : Below B w w1) (hk : Lib.OthersKept 5 (some b) w w1) : RdPost B b w o' e w2 := by
  subst ho
  refine ⟨hb.trans h.1, ?_⟩
  cases o with
  | none => exact h.2
  | some s => exact ⟨h.2.1, h.2.2.1, hk.trans h.2.2.2⟩

theorem rdPost_bool {B b : Nat} {w w2 : World} {o : Option St} {e : Ending} (h : RdPost B b w o e w2) : ∃ q : Bool, e = .returned (.bool q) := by
  cases o with
  | none => exact ⟨false, h.2⟩
  | some s => exact ⟨true, h.2.1⟩

set_option maxHeartbeats 1000000 in
theorem join_any {B b : Nat} {s : St} {w : World} (h : RdR B b s w) (hok : s.Ok) (hc : half2 s.code = true) (hlen : s.out.length + 4 ≤ 140737488355328) (hBw : B ≤ w.heap.size) :
    Calls Tryz.prog 312 #[.pointer (some ⟨b, 0, none⟩)] w (RdPost B b w s.join) := by
  obtain ⟨x2, x3, x4, x5⟩ := rd_cells h
  obtain ⟨y2, y3, y4, y5⟩ := rd_frozen h
  have hcr : 56320 ≤ s.code ∧ s.code ≤ 57343 := by simpa [half2] using hc
  clear hc
  by_cases hf : s.first = 0
  · have hf' : (s.first == 0) = true := by simp [hf]
    have HP := Lib.hid (show s.join = none by unfold St.join; rw [if_pos hf])
    clear hf
    go_enter Tryz.func312, Tryz.ntmps312
    go_wp2_with fail
    go_ret
    exact rdPost_no HP.out (Below.refl _ _)
  · have hf' : (s.first == 0) = false := by simpa using hf
    have hfr : 55296 ≤ s.first ∧ s.first ≤ 56319 := by rcases hok.f with h' | h'; exact absurd h' hf; exact h'
    have HP := Lib.hid (show s.join = some { s with first := 0, out := s.out ++ Lib.encodeRune (65536 + (s.first - 55296) * 1024 + (s.code - 56320)) } by unfold St.join; rw [if_neg hf])
    clear hf
    go_enter Tryz.func312, Tryz.ntmps312
    go_wp2_with fail
    go_region
    go_wp2_with fail
    have h1 : RdR B b { s with first := 0 } (w.setCell ⟨b, 5, none⟩ (.int .i32 0)).drew := rd_setFirst h 0
    refine (put_any (65536 + (s.first - 55296) * 1024 + (s.code - 56320)) (by omega) (by omega) h1 hlen (by simpa [World.setCell] using hBw)).mono ?_
    rintro e w1 hp
    obtain ⟨q, rfl⟩ := rdPost_bool hp
    go_wp2_with fail
    go_ret
    exact rdPost_next hp (by rw [HP.out, St.put, if_pos rfl]) (rd_below h (Below.refl B w) 5 _).drew (rd_kept (Lib.OthersKept.refl _ _ w) 5 _)

set_option maxHeartbeats 1000000 in
theorem takeCode_any {B b : Nat} {s : St} {w : World} (h : RdR B b s w) (hok : s.Ok) (hlen : s.out.length + 4 ≤ 140737488355328) (hBw : B ≤ w.heap.size) :
    Calls Tryz.prog 299 #[.pointer (some ⟨b, 0, none⟩)] w (RdPost B b w s.takeCode) := by
  obtain ⟨x2, x3, x4, x5⟩ := rd_cells h
  obtain ⟨y2, y3, y4, y5⟩ := rd_frozen h
  have k0 := hok.c0
  have k1 := hok.c1
  by_cases hc2 : half2 s.code = true
  · have HP := Lib.hid (show s.takeCode = s.join by unfold St.takeCode; rw [if_pos hc2])
    have HC := Lib.hid hc2
    go_enter Tryz.func299, Tryz.ntmps299
    go_wp2_with ((go_at_call 311); (refine (isSecondHalf_any _ _).mono ?_); rintro e w' ⟨rfl, rfl⟩)
    refine (join_any h hok HC.out hlen hBw).mono ?_
    rintro e w1 hp
    obtain ⟨q, rfl⟩ := rdPost_bool hp
    go_wp2_with fail
    go_ret
    exact rdPost_next hp (by rw [HP.out]) (Below.refl B _) (Lib.OthersKept.refl _ _ _)
  · have hc2' : half2 s.code = false := by simpa using hc2
    clear hc2
    by_cases hc1 : half1 s.code = true
    · by_cases hf : s.first = 0
      · have hf' : (s.first != 0) = false := by simp [hf]
        have HP := Lib.hid (show s.takeCode = some { s with first := s.code } by unfold St.takeCode; rw [hc2', if_neg (by simp), if_pos hc1, if_pos hf])
        clear hf
        go_enter Tryz.func299, Tryz.ntmps299
        go_wp2_with (first | ((go_at_call 311); (refine (isSecondHalf_any _ _).mono ?_); rintro e w' ⟨rfl, rfl⟩) | ((go_at_call 313); (refine (isFirstHalf_any _ _).mono ?_); rintro e w' ⟨rfl, rfl⟩))
        go_ret
        exact rdPost_yes HP.out (rd_below h (Below.refl B w) 5 _) (rd_setFirst h _) (rd_kept (Lib.OthersKept.refl _ _ w) 5 _)
      · have hf' : (s.first != 0) = true := by simpa using hf
        have HP := Lib.hid (show s.takeCode = none by unfold St.takeCode; rw [hc2', if_neg (by simp), if_pos hc1, if_neg hf])
        clear hf
        go_enter Tryz.func299, Tryz.ntmps299
        go_wp2_with (first | ((go_at_call 311); (refine (isSecondHalf_any _ _).mono ?_); rintro e w' ⟨rfl, rfl⟩) | ((go_at_call 313); (refine (isFirstHalf_any _ _).mono ?_); rintro e w' ⟨rfl, rfl⟩))
        go_ret
        exact rdPost_no HP.out (Below.refl _ _)
    · have hc1' : half1 s.code = false := by simpa using hc1
      clear hc1
      have HP := Lib.hid (show s.takeCode = s.put s.code by unfold St.takeCode; rw [hc2', hc1', if_neg (by simp), if_neg (by simp)])
      go_enter Tryz.func299, Tryz.ntmps299
      go_wp2_with (first | ((go_at_call 311); (refine (isSecondHalf_any _ _).mono ?_); rintro e w' ⟨rfl, rfl⟩) | ((go_at_call 313); (refine (isFirstHalf_any _ _).mono ?_); rintro e w' ⟨rfl, rfl⟩))
      refine (put_any s.code (by omega) (by omega) h hlen hBw).mono ?_
      rintro e w1 hp
      obtain ⟨q, rfl⟩ := rdPost_bool hp
      go_wp2_with fail
      go_ret
      exact rdPost_next hp (by rw [HP.out]) (Below.refl B _) (Lib.OthersKept.refl _ _ _)

theorem St.Ok.digit {s : St} (hok : s.Ok) (hd : 0 < s.digits) (v : Int) (h0 : 0 ≤ v) (h1 : v ≤ 15) : St.Ok { s with code := s.code * 16 + v, digits := s.digits - 1 } := by
  obtain ⟨d0, d4, c0, c1, ⟨c24, c23, c22, c21⟩, f⟩ := hok
  refine ⟨?_, ?_, ?_, ?_, ⟨?_, ?_, ?_, ?_⟩, f⟩ <;> simp only <;> omega

set_option maxHeartbeats 1000000 in
theorem takeLetter_any {B b : Nat} {s : St} {w : World} (c : Int) (h : RdR B b s w) (hlen : s.out.length + 4 ≤ 140737488355328) (hBw : B ≤ w.heap.size) :
    Calls Tryz.prog 274 #[.pointer (some ⟨b, 0, none⟩), .int .i32 c] w (RdPost B b w (s.takeLetter c)) := by
  obtain ⟨x2, x3, x4, x5⟩ := rd_cells h
  obtain ⟨y2, y3, y4, y5⟩ := rd_frozen h
  have hpr := ptOf_range c
  by_cases hu : c = 117
  · subst hu
    go_enter Tryz.func274, Tryz.ntmps274
    go_wp2_with fail
    go_ret
    exact rdPost_yes (by unfold St.takeLetter; rw [if_pos rfl]) (((Below.refl B w).setCell (p := ⟨b, 2, none⟩) (rd_le h) _).setCell (p := ⟨b, 3, none⟩) (rd_le h) _ |>.setCell (p := ⟨b, 4, none⟩) (rd_le h) _) (rd_setCode (rd_setDigits (rd_setEsc h false) 4) 0) (rd_kept (rd_kept (rd_kept (Lib.OthersKept.refl _ _ w) 2 _) 3 _) 4 _)
  · have hu' : (c == 117) = false := by simpa using hu
    by_cases hz : ptOf c = 0
    · have hz' : (ptOf c != 0) = false := by simp [hz]
      have HP := Lib.hid (show s.takeLetter c = none by unfold St.takeLetter; rw [if_neg hu, if_pos hz])
      clear hu hz
      go_enter Tryz.func274, Tryz.ntmps274
      go_wp2_with ((go_at_call 300); (refine (pointOf_any _ _).mono ?_); rintro e w' ⟨rfl, rfl⟩)
      go_ret
      exact rdPost_no HP.out (rd_below h (Below.refl B w) 2 _)
    · have hz' : (ptOf c != 0) = true := by simpa using hz
      have HP := Lib.hid (show s.takeLetter c = St.put { s with esc := false } (ptOf c) by unfold St.takeLetter; rw [if_neg hu, if_neg hz])
      clear hu hz
      go_enter Tryz.func274, Tryz.ntmps274
      go_wp2_with ((go_at_call 300); (refine (pointOf_any _ _).mono ?_); rintro e w' ⟨rfl, rfl⟩)
      refine (put_any (ptOf c) (by omega) (by omega) (rd_setEsc h false) hlen (by simpa [World.setCell] using hBw)).mono ?_
      rintro e w1 hp
      obtain ⟨q, rfl⟩ := rdPost_bool hp
      go_wp2_with fail
      go_ret
      exact rdPost_next hp (by rw [HP.out]) (rd_below h (Below.refl B w) 2 _) (rd_kept (Lib.OthersKept.refl _ _ w) 2 _)

set_option maxHeartbeats 1000000 in
theorem takeDigit_any {B b : Nat} {s : St} {w : World} (c : Int) (h0 : -2147483648 ≤ c) (h1 : c ≤ 2147483647) (h : RdR B b s w) (hok : s.Ok) (hd : 0 < s.digits) (hlen : s.out.length + 4 ≤ 140737488355328) (hBw : B ≤ w.heap.size) :
    Calls Tryz.prog 273 #[.pointer (some ⟨b, 0, none⟩), .int .i32 c] w (RdPost B b w (s.takeDigit c)) := by
  obtain ⟨x2, x3, x4, x5⟩ := rd_cells h
  obtain ⟨y2, y3, y4, y5⟩ := rd_frozen h
  have hr := hexV_range c
  have k0 := hok.c0
  have k1 := hok.c1
  have k4 := hok.d4
  by_cases hn : hexV c < 0
  · have HP := Lib.hid (show s.takeDigit c = none by unfold St.takeDigit; rw [if_pos hn])
    have hn' : decide (hexV c < 0) = true := by simpa using hn
    go_enter Tryz.func273, Tryz.ntmps273
    go_wp2_with ((go_at_call 298); (refine (digitOf_any _ _ h0 h1).mono ?_); rintro e w' ⟨rfl, rfl⟩)
    go_ret
    exact rdPost_no HP.out (Below.refl _ _)
  · have hok2 := hok.digit hd (hexV c) (by omega) hr.2
    have hn' : decide (hexV c < 0) = false := by simpa using hn
    have hz1 : 0 ≤ hexV c := by omega
    have h2 : RdR B b { s with code := s.code * 16 + hexV c, digits := s.digits - 1 } ((w.setCell ⟨b, 4, none⟩ (.int .i32 (s.code * 16 + hexV c))).setCell ⟨b, 3, none⟩ (.int .i64 (s.digits - 1))) := rd_setDigits (rd_setCode h _) _
    by_cases hm : 1 < s.digits
    · have HP := Lib.hid (show s.takeDigit c = some { s with code := s.code * 16 + hexV c, digits := s.digits - 1 } by unfold St.takeDigit; rw [if_neg hn, if_pos hm])
      have hm' : decide (0 < s.digits - 1) = true := by simp; omega
      clear hn
      go_enter Tryz.func273, Tryz.ntmps273
      go_wp2_with ((go_at_call 298); (refine (digitOf_any _ _ h0 h1).mono ?_); rintro e w' ⟨rfl, rfl⟩)
      go_ret
      exact rdPost_yes HP.out (rd_below (rd_setCode h (s.code * 16 + hexV c)) (rd_below h (Below.refl B w) 4 _) 3 _) h2 (rd_kept (rd_kept (Lib.OthersKept.refl _ _ w) 4 _) 3 _)
    · have HP := Lib.hid (show s.takeDigit c = St.takeCode { s with code := s.code * 16 + hexV c, digits := s.digits - 1 } by unfold St.takeDigit; rw [if_neg hn, if_neg hm])
      have hm' : decide (1 < s.digits) = false := by simpa using hm
      clear hn
      go_enter Tryz.func273, Tryz.ntmps273
      go_wp2_with ((go_at_call 298); (refine (digitOf_any _ _ h0 h1).mono ?_); rintro e w' ⟨rfl, rfl⟩)
      refine (takeCode_any h2 hok2 hlen (by simpa [World.setCell] using hBw)).mono ?_
      rintro e w1 hp
      obtain ⟨q, rfl⟩ := rdPost_bool hp
      go_wp2_with fail
      go_ret
      exact rdPost_next hp (by rw [HP.out]) (rd_below (rd_setCode h (s.code * 16 + hexV c)) (rd_below h (Below.refl B w) 4 _) 3 _) (rd_kept (rd_kept (Lib.OthersKept.refl _ _ w) 4 _) 3 _)

end Go.Proofs.YtkfllppggjhhmaaGreatDoor
