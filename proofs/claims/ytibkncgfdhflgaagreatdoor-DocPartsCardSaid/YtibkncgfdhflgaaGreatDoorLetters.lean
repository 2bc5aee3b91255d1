/-
  What runes.isLetter, runes.isDigit and runes.Name answer: at every rune, at every string of at most maxLen bytes.
-/
import Derived.Test.YtibkncgfdhflgaaGreatDoorLet0
namespace Go.Proofs.YtibkncgfdhflgaaGreatDoor
open Go.RowKit

set_option maxHeartbeats 400000 in
theorem isLetter_any (c : Int) (w : World) :
    Calls Tryz.prog 51 #[.int .i32 c] w fun e w' => e = .returned (.bool (letB c)) ∧ w = w' := by
  go_enter Tryz.func51, Tryz.ntmps51
  go_wp2
  all_goals
    go_ret
    refine ⟨ret_bool ?_, rfl⟩
    rw [Bool.eq_iff_iff]
    simp [letB]
    try omega

set_option maxHeartbeats 400000 in
theorem isDigit_any (c : Int) (w : World) :
    Calls Tryz.prog 52 #[.int .i32 c] w fun e w' => e = .returned (.bool (digB c)) ∧ w = w' := by
  go_enter Tryz.func52, Tryz.ntmps52
  go_wp2
  all_goals
    go_ret
    refine ⟨ret_bool ?_, rfl⟩
    rw [Bool.eq_iff_iff]
    simp [digB]
    try omega

/-- One letter of a name, at place i. -/
def nameOk (i : Nat) (c : Int) : Bool := letB c || (i != 0 && digB c)
def nameGo : Nat → List UInt8 → Bool
  | _, [] => true
  | i, c :: r => nameOk i c.toNat && nameGo (i + 1) r
def nameB (l : List UInt8) : Bool := decide (1 ≤ l.length) && decide (l.length ≤ 40) && nameGo 0 l

theorem nameOk_high (i : Nat) (c : Int) (h : 128 ≤ c) : nameOk i c = false := by
  simp [nameOk, letB, digB]; omega

/-- What one round of a range over a string sees at a byte. -/
theorem nameGo_step (s : ByteArray) (pos : Nat) (h : pos < s.size) : nameGo pos (s.data.toList.drop pos) = (nameOk pos (Utf8.decode s pos).1 && nameGo (pos + 1) (s.data.toList.drop (pos + 1))) := by
  rw [drop_cons s pos h]
  by_cases ha : s[pos].toNat < 128
  · rw [decode_ascii s pos h ha]; rfl
  · have hh := (decode_high s pos h (by omega)).1
    rw [nameOk_high pos _ (by omega)]
    simp only [nameGo]
    rw [nameOk_high pos _ (by omega), Bool.false_and]

theorem width_one (s : ByteArray) (pos : Nat) (h : pos < s.size) (hk : nameOk pos (Utf8.decode s pos).1 = true) : (Utf8.decode s pos).2 = 1 := by
  by_cases ha : s[pos].toNat < 128
  · rw [decode_ascii s pos h ha]
  · have hh := (decode_high s pos h (by omega)).1
    rw [nameOk_high pos _ (by omega)] at hk
    cases hk

set_option maxHeartbeats 1000000 in
theorem name_any (s : ByteArray) (w : World) (hs : s.size ≤ maxLen) :
    Calls Tryz.prog 34 #[.string s] w fun e w' => e = .returned (.bool (nameB s.data.toList)) ∧ Below w.heap.size w w' := by
  unfold maxLen at hs
  by_cases hlo : s.size < 1
  · go_enter Tryz.func34, Tryz.ntmps34
    go_wp2
    go_ret
    exact ⟨ret_bool (by simp [nameB]; omega), Below.refl _ _⟩
  · by_cases hhi : 40 < s.size
    · go_enter Tryz.func34, Tryz.ntmps34
      go_wp2
      go_ret
      exact ⟨ret_bool (by simp [nameB]; omega), Below.refl _ _⟩
    · have HB : Hid (nameB s.data.toList = nameGo 0 s.data.toList) := by
        refine Lib.hid ?_
        simp [nameB]; omega
      have hd1 : decide ((s.size : Int) < 1) = false := by simp; omega
      have hd2 : decide ((40 : Int) < (s.size : Int)) = false := by simp; omega
      go_enter Tryz.func34, Tryz.ntmps34
      go_wp2
      go_loopw [] (fun wr => ∃ pos : Nat, wr.heap[w.heap.size]? = some (.stringIter s pos) ∧ Below w.heap.size w wr ∧ Hid (nameGo 0 s.data.toList = nameGo pos (s.data.toList.drop pos))) (fun wr => s.size - wr.iterPos w.heap.size)
      case atStart =>
        exact ⟨0, World.iter_heap w s 0, (Below.refl _ w).alloc (Nat.le_refl _) _, Lib.hid rfl⟩
      case round =>
        obtain ⟨pos, hit, hbw, HG⟩ := hrel
        by_cases hp : pos < s.size
        · have hnx : ∀ ty, (Instr.next (.pointer (some ⟨w.heap.size, 0, none⟩)) true ty).run Tryz.prog wr = _ := fun ty => Lib.run_next_any_at wr w.heap.size s pos ty hit hp
          have HS := Lib.hid (nameGo_step s pos hp)
          have HW := Lib.hid (width_one s pos hp)
          have hbw2 := Lib.below_iterAt hbw (Nat.le_refl _) s (pos + (Utf8.decode s pos).2)
          have HI := Lib.hid (Lib.iterAt_heap wr w.heap.size s pos (pos + (Utf8.decode s pos).2) hit)
          have HT := Lib.hid hit
          by_cases hl : letB (Utf8.decode s pos).1 = true
          · go_wp2_with (first | ((go_at_call 51); (with_reducible refine (isLetter_any _ _).mono ?_); rintro e w' ⟨rfl, rfl⟩) | ((go_at_call 52); (with_reducible refine (isDigit_any _ _).mono ?_); rintro e w' ⟨rfl, rfl⟩))
            have hk : nameOk pos (Utf8.decode s pos).1 = true := by simp [nameOk, hl]
            go_roundw
            case rel =>
              exact ⟨pos + 1, by rw [← HW.out hk]; exact HI.out, hbw2, Lib.hid (by rw [HG.out, HS.out, hk, Bool.true_and])⟩
            case measure =>
              have e1 := iterPos_of HI.out
              have e2 := iterPos_of HT.out
              have e3 := HW.out hk
              omega
          · have hl' : letB (Utf8.decode s pos).1 = false := by simpa using hl
            clear hl
            by_cases hz : pos = 0
            · have hz' : ((pos : Int) == 0) = true := by simp [hz]
              have HK := Lib.hid (show nameOk pos (Utf8.decode s pos).1 = false by unfold nameOk; rw [hl', hz]; rfl)
              clear hz
              go_wp2_with (first | ((go_at_call 51); (with_reducible refine (isLetter_any _ _).mono ?_); rintro e w' ⟨rfl, rfl⟩) | ((go_at_call 52); (with_reducible refine (isDigit_any _ _).mono ?_); rintro e w' ⟨rfl, rfl⟩))
              go_ret
              exact ⟨ret_bool (by rw [HB.out, HG.out, HS.out, HK.out, Bool.false_and]), hbw2⟩
            · have hz' : ((pos : Int) == 0) = false := by simp; omega
              by_cases hg : digB (Utf8.decode s pos).1 = true
              · go_wp2_with (first | ((go_at_call 51); (with_reducible refine (isLetter_any _ _).mono ?_); rintro e w' ⟨rfl, rfl⟩) | ((go_at_call 52); (with_reducible refine (isDigit_any _ _).mono ?_); rintro e w' ⟨rfl, rfl⟩))
                have hk : nameOk pos (Utf8.decode s pos).1 = true := by simp [nameOk, hg, hz]
                go_roundw
                case rel =>
                  exact ⟨pos + 1, by rw [← HW.out hk]; exact HI.out, hbw2, Lib.hid (by rw [HG.out, HS.out, hk, Bool.true_and])⟩
                case measure =>
                  have e1 := iterPos_of HI.out
                  have e2 := iterPos_of HT.out
                  have e3 := HW.out hk
                  omega
              · have hg' : digB (Utf8.decode s pos).1 = false := by simpa using hg
                clear hg
                have HK := Lib.hid (show nameOk pos (Utf8.decode s pos).1 = false by simp [nameOk, hl', hg'])
                go_wp2_with (first | ((go_at_call 51); (with_reducible refine (isLetter_any _ _).mono ?_); rintro e w' ⟨rfl, rfl⟩) | ((go_at_call 52); (with_reducible refine (isDigit_any _ _).mono ?_); rintro e w' ⟨rfl, rfl⟩))
                go_ret
                exact ⟨ret_bool (by rw [HB.out, HG.out, HS.out, HK.out, Bool.false_and]), hbw2⟩
        · have hnx : ∀ ty, (Instr.next (.pointer (some ⟨w.heap.size, 0, none⟩)) true ty).run Tryz.prog wr = _ := fun ty => Lib.run_next_end_at wr w.heap.size s pos ty hit hp
          go_wp2
          go_ret
          exact ⟨ret_bool (by rw [HB.out, HG.out, List.drop_of_length_le (by simp; omega)]; rfl), hbw⟩

end Go.Proofs.YtibkncgfdhflgaaGreatDoor
