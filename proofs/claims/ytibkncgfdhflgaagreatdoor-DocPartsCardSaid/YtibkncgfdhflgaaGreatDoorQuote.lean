/-
  What runes.Valid, runes.letterOf, runes.writeQuoted and runes.Quote answer.
-/
import Derived.Test.YtibkncgfdhflgaaGreatDoorLet0
import Derived.Test.YtibkncgfdhflgaaGreatDoorBString
namespace Go.Proofs.YtibkncgfdhflgaaGreatDoor
open Go.RowKit

theorem take_all (s : ByteArray) (pos : Nat) : (s.data.toList.drop pos).take (s.size - pos) = s.data.toList.drop pos :=
  List.take_of_length_le (Nat.le_of_eq (len_drop s pos))

theorem bad_of (s : ByteArray) (pos : Nat) (hp : pos < s.size) (h1 : ((Utf8.decode s pos).1 : Int) = 65533) (h2 : (!Lib.hasPrefix ((s.data.toList.drop pos).take (s.size - pos)) [239, 191, 189]) = true) : badAt (s.data.toList.drop pos) = true := by
  rw [take_all] at h2
  have h3 := (bad_iff _ (drop_ne s pos hp)).1 ⟨by rw [Lib.decodeL_drop]; omega, by simpa using h2⟩
  simpa [badAt] using h3

theorem ok_of (s : ByteArray) (pos : Nat) (hp : pos < s.size) (h : ¬ ((Utf8.decode s pos).1 : Int) = 65533 ∨ (!Lib.hasPrefix ((s.data.toList.drop pos).take (s.size - pos)) [239, 191, 189]) = false) : badAt (s.data.toList.drop pos) = false := by
  rw [take_all] at h
  unfold badAt
  refine decide_eq_false fun hb => ?_
  have h3 := (bad_iff _ (drop_ne s pos hp)).2 hb
  rcases h with h | h
  · rw [Lib.decodeL_drop] at h3; omega
  · rw [h3.2] at h; cases h

theorem valid_next (s : ByteArray) (pos : Nat) (hp : pos < s.size) (h : badAt (s.data.toList.drop pos) = false) : Lib.validD (s.data.toList.drop pos) = Lib.validD (s.data.toList.drop (pos + (Utf8.decode s pos).2)) := by
  rw [validD_go _ (drop_ne s pos hp) h, List.drop_drop, Lib.decodeL_drop]

set_option maxHeartbeats 1000000 in
theorem valid_any (s : ByteArray) (w : World) :
    Calls Tryz.prog 116 #[.string s] w fun e w' => e = .returned (.bool (Lib.validD s.data.toList)) ∧ Below w.heap.size w w' := by
  go_enter Tryz.func116, Tryz.ntmps116
  go_wp2
  go_loopw [] (fun wr => ∃ pos : Nat, wr.heap[w.heap.size]? = some (.stringIter s pos) ∧ Below w.heap.size w wr ∧ Hid (Lib.validD s.data.toList = Lib.validD (s.data.toList.drop pos))) (fun wr => s.size - wr.iterPos w.heap.size)
  case atStart =>
    exact ⟨0, World.iter_heap w s 0, (Below.refl _ w).alloc (Nat.le_refl _) _, Lib.hid rfl⟩
  case round =>
    obtain ⟨pos, hit, hbw, HG⟩ := hrel
    by_cases hp : pos < s.size
    · have hnx : ∀ ty, (Instr.next (.pointer (some ⟨w.heap.size, 0, none⟩)) true ty).run Tryz.prog wr = _ := fun ty => Lib.run_next_any_at wr w.heap.size s pos ty hit hp
      have HW := Lib.hid (show 1 ≤ (Utf8.decode s pos).2 by rw [← Lib.decodeL_drop]; exact Lib.decodeL_width _)
      have hbw2 := Lib.below_iterAt hbw (Nat.le_refl _) s (pos + (Utf8.decode s pos).2)
      have HI := Lib.hid (Lib.iterAt_heap wr w.heap.size s pos (pos + (Utf8.decode s pos).2) hit)
      have HT := Lib.hid hit
      go_wp2_with ((go_at_call 59); (refine (Tryz.strings_HasPrefix _ _ _).mono ?_); rintro e w' ⟨rfl, rfl⟩)
      · go_ret
        exact ⟨ret_bool (by rw [HG.out, validD_bad _ (drop_ne s pos hp) (bad_of s pos hp ‹_› ‹_›)]), hbw2⟩
      all_goals
        go_roundw
        case rel =>
          exact ⟨_, HI.out, hbw2, Lib.hid (by rw [HG.out, valid_next s pos hp (ok_of s pos hp (by first | exact .inl ‹_› | exact .inr ‹_›))])⟩
        case measure =>
          have e1 := iterPos_of HI.out
          have e2 := iterPos_of HT.out
          have e3 := HW.out
          omega
    · have hnx : ∀ ty, (Instr.next (.pointer (some ⟨w.heap.size, 0, none⟩)) true ty).run Tryz.prog wr = _ := fun ty => Lib.run_next_end_at wr w.heap.size s pos ty hit hp
      go_wp2
      go_ret
      exact ⟨ret_bool (by rw [HG.out, drop_end s pos hp]; rfl), hbw⟩

theorem ret_i32 {a b : Int} (h : a = b) : Ending.returned (.int .i32 a) = .returned (.int .i32 b) := by rw [h]

set_option maxHeartbeats 1000000 in
theorem letterOf_any (c : Int) (w : World) :
    Calls Tryz.prog 195 #[.int .i32 c] w fun e w' => e = .returned (.int .i32 (letOf c)) ∧ w = w' := by
  go_enter Tryz.func195, Tryz.ntmps195
  go_wp2
  all_goals
    go_ret
    refine ⟨ret_i32 ?_, rfl⟩
    simp only [beq_iff_eq, beq_eq_false_iff_ne, ne_eq] at *
    simp [letOf, *]

end Go.Proofs.YtibkncgfdhflgaaGreatDoor
