/-
  What refectoryref01.Valid, Letter, Digit, Name, escape, Quote answer.
-/
import Derived.Test.YtaafnkhemklpeaaRef1
import Derived.Test.YtaafnkhemklpeaaQuote2
namespace Go.Proofs.Ytaafnkhemklpeaa
open Go.RowKit

theorem r1_zero (s : ByteArray) (i : Nat) : (r1 s i).2 = 0 ↔ badAt (s.data.toList.drop i) = true := by
  unfold r1
  split
  · rename_i h; simp [h]
  · rename_i h
    have hw : 1 ≤ (Utf8.decode s i).2 := by rw [← Lib.decodeL_drop]; exact Lib.decodeL_width _
    simp only [h]
    constructor
    · intro e; omega
    · intro e; cases e

set_option maxHeartbeats 1000000 in
theorem refValid_any (s : ByteArray) (w : World) (hs : s.size ≤ 1000000000) :
    Calls Try.prog 13 #[.string s] w fun e w' => e = .returned (.bool (Lib.validD s.data.toList)) ∧ w = w' := by
  go_enter Try.func13, Try.ntmps13
  go_wp2_with fail
  go_loop [3, 4, 5] (fun i _ _ => ∃ pos : Nat, pos ≤ s.size ∧ i = .int .i64 pos ∧ Hid (Lib.validD s.data.toList = Lib.validD (s.data.toList.drop pos))) (fun i _ _ => s.size - (intOf i).toNat)
  case atStart => exact ⟨0, Nat.zero_le _, rfl, Lib.hid rfl⟩
  case round =>
    obtain ⟨pos, hp, rfl, HV⟩ := hrel
    by_cases hlt : pos < s.size
    · have hne := drop_ne s pos hlt
      have hle := Lib.decodeL_le _ hne
      rw [Lib.decodeL_drop, len_drop] at hle
      cases hb : badAt (s.data.toList.drop pos) with
      | true =>
        have HR := Lib.hid (show r1 s pos = (0, 0) by unfold r1; rw [hb]; rfl)
        have HE := Lib.hid (validD_bad _ hne hb)
        clear hb hne
        go_wp2_with fail
        refine (rune1_any s pos hs hlt _).mono ?_
        rintro e w' ⟨rfl, rfl⟩
        rw [HR.out]
        go_wp2_with fail
        go_ret
        exact ⟨ret_bool (by rw [HV.out, HE.out]), rfl⟩
      | false =>
        have HR := Lib.hid (show r1 s pos = Utf8.decode s pos by unfold r1; rw [hb]; rfl)
        have HE := Lib.hid (valid_next s pos hlt hb)
        have hw : 1 ≤ (Utf8.decode s pos).2 := by rw [← Lib.decodeL_drop]; exact Lib.decodeL_width _
        have hz : (((Utf8.decode s pos).2 : Int) == 0) = false := by simp; omega
        clear hb hne
        go_wp2_with fail
        refine (rune1_any s pos hs hlt _).mono ?_
        rintro e w' ⟨rfl, rfl⟩
        rw [HR.out]
        go_wp2_with fail
        go_round
        case rel => exact ⟨pos + (Utf8.decode s pos).2, by omega, by go_num, Lib.hid (by rw [HV.out, HE.out])⟩
        case measure => simp [intOf]; omega
    · go_wp2_with fail
      go_ret
      exact ⟨ret_bool (by rw [HV.out, drop_end s pos hlt]; rfl), rfl⟩

set_option maxHeartbeats 1000000 in
theorem refLetter_any (c : Int) (w : World) :
    Calls Try.prog 30 #[.int .u8 c] w fun e w' => e = .returned (.bool (letB c)) ∧ w = w' := by
  go_enter Try.func30, Try.ntmps30
  go_wp2
  all_goals
    go_ret
    refine ⟨ret_bool ?_, rfl⟩
    rw [Bool.eq_iff_iff]
    simp [letB]
    try omega

set_option maxHeartbeats 1000000 in
theorem refDigit_any (c : Int) (w : World) :
    Calls Try.prog 31 #[.int .u8 c] w fun e w' => e = .returned (.bool (digB c)) ∧ w = w' := by
  go_enter Try.func31, Try.ntmps31
  go_wp2
  all_goals
    go_ret
    refine ⟨ret_bool ?_, rfl⟩
    rw [Bool.eq_iff_iff]
    simp [digB]
    try omega

theorem nameGo_cons (s : ByteArray) (pos : Nat) (h : pos < s.size) : nameGo pos (s.data.toList.drop pos) = (nameOk pos (s[pos].toNat : Int) && nameGo (pos + 1) (s.data.toList.drop (pos + 1))) := by
  rw [drop_cons s pos h]; rfl

set_option maxHeartbeats 1000000 in
theorem refName_any (s : ByteArray) (w : World) (hs : s.size ≤ 1000000000) :
    Calls Try.prog 15 #[.string s] w fun e w' => e = .returned (.bool (nameB s.data.toList)) ∧ w = w' := by
  go_enter Try.func15, Try.ntmps15
  go_wp2_with fail
  go_loop [3] (fun i => ∃ pos : Nat, pos ≤ s.size ∧ i = .int .i64 pos ∧ Hid (nameGo 0 s.data.toList = nameGo pos (s.data.toList.drop pos))) (fun i => s.size - (intOf i).toNat)
  case atStart => exact ⟨0, Nat.zero_le _, rfl, Lib.hid rfl⟩
  case round =>
    obtain ⟨pos, hp, rfl, HG⟩ := hrel
    by_cases hlt : pos < s.size
    · have HS := Lib.hid (nameGo_cons s pos hlt)
      cases hl : letB (s[pos].toNat : Int) with
      | true =>
        have HK := Lib.hid (show nameOk pos (s[pos].toNat : Int) = true by simp [nameOk, hl])
        go_wp2_with (first | ((go_at_call 30); (refine (refLetter_any _ _).mono ?_); rintro e w' ⟨rfl, rfl⟩) | ((go_at_call 31); (refine (refDigit_any _ _).mono ?_); rintro e w' ⟨rfl, rfl⟩))
        go_round
        case rel => exact ⟨pos + 1, by omega, by go_num, Lib.hid (by rw [HG.out, HS.out, HK.out, Bool.true_and])⟩
        case measure => simp [intOf]; omega
      | false =>
        by_cases hz : pos = 0
        · have hz' : ((pos : Int) == 0) = true := by simp [hz]
          have h0 : (pos != 0) = false := by simp [hz]
          have HK := Lib.hid (show nameOk pos (s[pos].toNat : Int) = false by unfold nameOk; rw [hl, h0]; rfl)
          clear h0
          clear hz
          go_wp2_with (first | ((go_at_call 30); (refine (refLetter_any _ _).mono ?_); rintro e w' ⟨rfl, rfl⟩) | ((go_at_call 31); (refine (refDigit_any _ _).mono ?_); rintro e w' ⟨rfl, rfl⟩))
          go_ret
          exact ⟨ret_bool (by unfold nameB; rw [HG.out, HS.out, HK.out, Bool.false_and, Bool.and_false]), rfl⟩
        · have hz' : ((pos : Int) == 0) = false := by simp; omega
          cases hd : digB (s[pos].toNat : Int) with
          | true =>
            have HK := Lib.hid (show nameOk pos (s[pos].toNat : Int) = true by simp [nameOk, hl, hd, hz])
            go_wp2_with (first | ((go_at_call 30); (refine (refLetter_any _ _).mono ?_); rintro e w' ⟨rfl, rfl⟩) | ((go_at_call 31); (refine (refDigit_any _ _).mono ?_); rintro e w' ⟨rfl, rfl⟩))
            go_round
            case rel => exact ⟨pos + 1, by omega, by go_num, Lib.hid (by rw [HG.out, HS.out, HK.out, Bool.true_and])⟩
            case measure => simp [intOf]; omega
          | false =>
            have HK := Lib.hid (show nameOk pos (s[pos].toNat : Int) = false by simp [nameOk, hl, hd])
            go_wp2_with (first | ((go_at_call 30); (refine (refLetter_any _ _).mono ?_); rintro e w' ⟨rfl, rfl⟩) | ((go_at_call 31); (refine (refDigit_any _ _).mono ?_); rintro e w' ⟨rfl, rfl⟩))
            go_ret
            exact ⟨ret_bool (by unfold nameB; rw [HG.out, HS.out, HK.out, Bool.false_and, Bool.and_false]), rfl⟩
    · have HE := Lib.hid (show nameB s.data.toList = (decide (1 ≤ s.size) && decide (s.size ≤ 40)) by
        unfold nameB
        rw [HG.out, drop_end s pos hlt]
        simp [nameGo])
      by_cases h1 : 1 ≤ s.size
      · have d1 : decide ((1 : Int) ≤ (s.size : Int)) = true := by simp; omega
        by_cases h2 : s.size ≤ 40
        · have d2 : decide ((s.size : Int) ≤ 40) = true := by simp; omega
          have HF := Lib.hid (show (decide (1 ≤ s.size) && decide (s.size ≤ 40)) = true by simp; omega)
          go_wp2_with fail
          go_ret
          exact ⟨ret_bool (by rw [HE.out, HF.out]), rfl⟩
        · have d2 : decide ((s.size : Int) ≤ 40) = false := by simp; omega
          have HF := Lib.hid (show (decide (1 ≤ s.size) && decide (s.size ≤ 40)) = false by simp; omega)
          go_wp2_with fail
          go_ret
          exact ⟨ret_bool (by rw [HE.out, HF.out]), rfl⟩
      · have d1 : decide ((1 : Int) ≤ (s.size : Int)) = false := by simp; omega
        have HF := Lib.hid (show (decide (1 ≤ s.size) && decide (s.size ≤ 40)) = false by simp; omega)
        go_wp2_with fail
        go_ret
        exact ⟨ret_bool (by rw [HE.out, HF.out]), rfl⟩

end Go.Proofs.Ytaafnkhemklpeaa
