/-
  What refectoryref01.Valid and Digit answer.
-/
import Derived.Test.YtakmkhkbeabgcaaDoorRef1
import Derived.Test.YtakmkhkbeabgcaaDoorQuote2
namespace Go.Proofs.YtakmkhkbeabgcaaDoor
open Go.RowKit

theorem r1_zero (s : ByteArray) (i : Nat) : (r1 s i).2 = 0 ↔ badAt (s.data.toList.drop i) = true := by
  unfold r1
  split
  · rename_i h; simp [h]
  · rename_i h
    have hw : 1 ≤ (Utf8.decode s i).2 := by rw [← Lib.decodeL_drop]; exact Lib.decodeL_width _
    simp only [h]
    constructor
    · intro e; omega
    · intro e; cases e

set_option maxHeartbeats 1000000 in
theorem refValid_any (s : ByteArray) (w : World) (hs : s.size ≤ 1000000000) :
    Calls Tryd.prog 73 #[.string s] w fun e w' => e = .returned (.bool (Lib.validD s.data.toList)) ∧ w = w' := by
  go_enter Tryd.func73, Tryd.ntmps73
  go_wp2_with fail
  go_loop [3, 4, 5] (fun i _ _ => ∃ pos : Nat, pos ≤ s.size ∧ i = .int .i64 pos ∧ Hid (Lib.validD s.data.toList = Lib.validD (s.data.toList.drop pos))) (fun i _ _ => s.size - (intOf i).toNat)
  case atStart => exact ⟨0, Nat.zero_le _, rfl, Lib.hid rfl⟩
  case round =>
    obtain ⟨pos, hp, rfl, HV⟩ := hrel
    by_cases hlt : pos < s.size
    · have hne := drop_ne s pos hlt
      have hle := Lib.decodeL_le _ hne
      rw [Lib.decodeL_drop, len_drop] at hle
      cases hb : badAt (s.data.toList.drop pos) with
      | true =>
        have HR := Lib.hid (show r1 s pos = (0, 0) by unfold r1; rw [hb]; rfl)
        have HE := Lib.hid (validD_bad _ hne hb)
        clear hb hne
        go_wp2_with fail
        refine (rune1_any s pos hs hlt _).mono ?_
        rintro e w' ⟨rfl, rfl⟩
        rw [HR.out]
        go_wp2_with fail
        go_ret
        exact ⟨ret_bool (by rw [HV.out, HE.out]), rfl⟩
      | false =>
        have HR := Lib.hid (show r1 s pos = Utf8.decode s pos by unfold r1; rw [hb]; rfl)
        have HE := Lib.hid (valid_next s pos hlt hb)
        have hw : 1 ≤ (Utf8.decode s pos).2 := by rw [← Lib.decodeL_drop]; exact Lib.decodeL_width _
        have hz : (((Utf8.decode s pos).2 : Int) == 0) = false := by simp; omega
        clear hb hne
        go_wp2_with fail
        refine (rune1_any s pos hs hlt _).mono ?_
        rintro e w' ⟨rfl, rfl⟩
        rw [HR.out]
        go_wp2_with fail
        go_round
        case rel => exact ⟨pos + (Utf8.decode s pos).2, by omega, by go_num, Lib.hid (by rw [HV.out, HE.out])⟩
        case measure => simp [intOf]; omega
    · go_wp2_with fail
      go_ret
      exact ⟨ret_bool (by rw [HV.out, drop_end s pos hlt]; rfl), rfl⟩

set_option maxHeartbeats 1000000 in
theorem refDigit_any (c : Int) (w : World) :
    Calls Tryd.prog 27 #[.int .u8 c] w fun e w' => e = .returned (.bool (digB c)) ∧ w = w' := by
  go_enter Tryd.func27, Tryd.ntmps27
  go_wp2
  all_goals
    go_ret
    refine ⟨ret_bool ?_, rfl⟩
    rw [Bool.eq_iff_iff]
    simp [digB]
    try omega

end Go.Proofs.YtakmkhkbeabgcaaDoor
