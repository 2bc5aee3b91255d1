/-
  What runes.indentOf, isBlank, leastIndent, trimBlank and joinLines answer.
-/
import Derived.Test.YtibkncgfdhflgaaGreatDoorQuote2
import Derived.Deep.QuietTactic
import Derived.BigQuiet
namespace Go.Proofs.YtibkncgfdhflgaaGreatDoor
open Go.RowKit

def isB (c : UInt8) : Bool := c == 32 || c == 9
def indent (l : List UInt8) : Nat := (l.takeWhile isB).length
def blankB (l : List UInt8) : Bool := indent l == l.length

theorem indent_le (l : List UInt8) : indent l ≤ l.length := by
  unfold indent
  exact (List.takeWhile_prefix isB).length_le
theorem indent_cons (c : UInt8) (t : List UInt8) : indent (c :: t) = if isB c then indent t + 1 else 0 := by
  unfold indent
  rw [List.takeWhile_cons]
  split <;> simp

/-- Is a rune a blank? -/
def isBR (c : Int) : Bool := decide (c = 32 ∨ c = 9)

theorem isBR_step (s : ByteArray) (pos : Nat) (h : pos < s.size) : isB s[pos] = isBR (Utf8.decode s pos).1 ∧ (isBR (Utf8.decode s pos).1 = true → (Utf8.decode s pos).2 = 1) := by
  by_cases ha : s[pos].toNat < 128
  · rw [decode_ascii s pos h ha]
    refine ⟨?_, fun _ => rfl⟩
    unfold isB isBR
    rw [Bool.eq_iff_iff]
    simp only [Bool.or_eq_true, beq_iff_eq, decide_eq_true_eq, ← UInt8.toNat_inj]
    have e1 : (32 : UInt8).toNat = 32 := rfl
    have e2 : (9 : UInt8).toNat = 9 := rfl
    rw [e1, e2]
    omega
  · have hh := (decode_high s pos h (by omega)).1
    have hn : isBR (Utf8.decode s pos).1 = false := by
      unfold isBR
      refine decide_eq_false ?_
      omega
    refine ⟨?_, fun h' => by rw [hn] at h'; cases h'⟩
    rw [hn]
    unfold isB
    rw [Bool.eq_false_iff]
    intro h'
    simp only [Bool.or_eq_true, beq_iff_eq, ← UInt8.toNat_inj] at h'
    have e1 : (32 : UInt8).toNat = 32 := rfl
    have e2 : (9 : UInt8).toNat = 9 := rfl
    rw [e1, e2] at h'
    omega

theorem indent_go (s : ByteArray) (pos : Nat) (h : pos < s.size) (hb : isBR (Utf8.decode s pos).1 = true) : pos + indent (s.data.toList.drop pos) = pos + 1 + indent (s.data.toList.drop (pos + 1)) := by
  rw [drop_cons s pos h, indent_cons, (isBR_step s pos h).1, hb, if_pos rfl]
  omega
theorem indent_stop (s : ByteArray) (pos : Nat) (h : pos < s.size) (hb : isBR (Utf8.decode s pos).1 = false) : pos + indent (s.data.toList.drop pos) = pos := by
  rw [drop_cons s pos h, indent_cons, (isBR_step s pos h).1, hb, if_neg (by simp)]
  omega

theorem ret_int64 {a b : Int} (h : a = b) : Ending.returned (.int .i64 a) = .returned (.int .i64 b) := by rw [h]

set_option maxHeartbeats 1000000 in
theorem indentOf_any (s : ByteArray) (w : World) :
    Calls Tryz.prog 119 #[.string s] w fun e w' => e = .returned (.int .i64 (indent s.data.toList)) ∧ Below w.heap.size w w' := by
  go_enter Tryz.func119, Tryz.ntmps119
  go_wp2
  go_loopw [] (fun wr => ∃ pos : Nat, wr.heap[w.heap.size]? = some (.stringIter s pos) ∧ Below w.heap.size w wr ∧ pos ≤ s.size ∧ Hid (indent s.data.toList = pos + indent (s.data.toList.drop pos))) (fun wr => s.size - wr.iterPos w.heap.size)
  case atStart =>
    exact ⟨0, World.iter_heap w s 0, (Below.refl _ w).alloc (Nat.le_refl _) _, Nat.zero_le _, Lib.hid (by simp)⟩
  case round =>
    obtain ⟨pos, hit, hbw, hps, HG⟩ := hrel
    by_cases hp : pos < s.size
    · have hnx : ∀ ty, (Instr.next (.pointer (some ⟨w.heap.size, 0, none⟩)) true ty).run Tryz.prog wr = _ := fun ty => Lib.run_next_any_at wr w.heap.size s pos ty hit hp
      have hbw2 := Lib.below_iterAt hbw (Nat.le_refl _) s (pos + (Utf8.decode s pos).2)
      have HI := Lib.hid (Lib.iterAt_heap wr w.heap.size s pos (pos + (Utf8.decode s pos).2) hit)
      have HT := Lib.hid hit
      have HW := Lib.hid ((isBR_step s pos hp).2)
      cases hb : isBR (Utf8.decode s pos).1 with
      | true =>
        have HS := Lib.hid (indent_go s pos hp hb)
        have HB := Lib.hid hb
        have hor : ((Utf8.decode s pos).1 : Int) = 32 ∨ ((Utf8.decode s pos).1 : Int) = 9 := by simpa [isBR] using hb
        clear hb
        rcases hor with hx | hx
        · have f1 : (((Utf8.decode s pos).1 : Int) != 32) = false := by simp [hx]
          clear hx
          go_wp2_with fail
          go_roundw
          case rel =>
            exact ⟨pos + 1, by rw [← HW.out HB.out]; exact HI.out, hbw2, by omega, Lib.hid (by rw [HG.out, HS.out])⟩
          case measure =>
            have e1 := iterPos_of HI.out
            have e2 := iterPos_of HT.out
            have e3 := HW.out HB.out
            omega
        · have f1 : (((Utf8.decode s pos).1 : Int) != 32) = true := by simp [hx]
          have f2 : (((Utf8.decode s pos).1 : Int) != 9) = false := by simp [hx]
          clear hx
          go_wp2_with fail
          go_roundw
          case rel =>
            exact ⟨pos + 1, by rw [← HW.out HB.out]; exact HI.out, hbw2, by omega, Lib.hid (by rw [HG.out, HS.out])⟩
          case measure =>
            have e1 := iterPos_of HI.out
            have e2 := iterPos_of HT.out
            have e3 := HW.out HB.out
            omega
      | false =>
        have HS := Lib.hid (indent_stop s pos hp hb)
        have hor : ¬ (((Utf8.decode s pos).1 : Int) = 32 ∨ ((Utf8.decode s pos).1 : Int) = 9) := by simpa [isBR] using hb
        have f1 : (((Utf8.decode s pos).1 : Int) != 32) = true := by simp; omega
        have f2 : (((Utf8.decode s pos).1 : Int) != 9) = true := by simp; omega
        clear hb hor
        go_wp2_with fail
        go_ret
        exact ⟨ret_int64 (by rw [HG.out, HS.out]), hbw2⟩
    · have hnx : ∀ ty, (Instr.next (.pointer (some ⟨w.heap.size, 0, none⟩)) true ty).run Tryz.prog wr = _ := fun ty => Lib.run_next_end_at wr w.heap.size s pos ty hit hp
      go_wp2
      go_ret
      exact ⟨ret_int64 (by rw [HG.out, drop_end s pos hp]; simp [indent]; omega), hbw⟩

theorem indent_size (s : ByteArray) : indent s.data.toList ≤ s.size := indent_le s.data.toList

set_option maxHeartbeats 1000000 in
theorem isBlank_any (s : ByteArray) (w : World) :
    Calls Tryz.prog 149 #[.string s] w fun e w' => e = .returned (.bool (blankB s.data.toList)) ∧ Below w.heap.size w w' := by
  have hi := indent_size s
  go_enter Tryz.func149, Tryz.ntmps149
  go_wp2_with fail
  refine (indentOf_any s w).mono ?_
  rintro e w1 ⟨rfl, b1⟩
  go_wp2_with fail
  go_ret
  refine ⟨ret_bool ?_, b1⟩
  unfold blankB
  rw [Bool.eq_iff_iff]
  simp
  omega

end Go.Proofs.YtibkncgfdhflgaaGreatDoor
