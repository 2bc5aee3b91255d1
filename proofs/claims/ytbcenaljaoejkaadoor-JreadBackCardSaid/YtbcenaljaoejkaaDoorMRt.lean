/-
  What the document's Number answers: the same as the program's.
-/
import Derived.Test.YtbcenaljaoejkaaDoorAl1
import Derived.Deep.DeepCutAuto
import Derived.Test.YtbcenaljaoejkaaDoorAl2
import Derived.Test.YtbcenaljaoejkaaDoorRs
import Derived.Test.YtbcenaljaoejkaaDoorChk
import Derived.Test.YtbcenaljaoejkaaDoorText2
namespace Go.Proofs.YtbcenaljaoejkaaDoor
open Go.RowKit

def hdN (l : List UInt8) : UInt8 := l.headD 0
def rn5 (wh : Bool) (l : List UInt8) : Bool × Bool := if l.length = 0 then (wh, true) else (false, false)
def rn4 (l : List UInt8) : Bool × Bool := if ndL l = 0 then (false, false) else rn5 false (l.drop (ndL l))
def rn3 (wh : Bool) (l : List UInt8) : Bool × Bool := if hdN l = 101 ∨ hdN l = 69 then rn4 (if hdN (l.drop 1) = 43 ∨ hdN (l.drop 1) = 45 then (l.drop 1).drop 1 else l.drop 1) else rn5 wh l
def rn2 (l : List UInt8) : Bool × Bool := if hdN l = 46 then (if ndL (l.drop 1) = 0 then (false, false) else rn3 false ((l.drop 1).drop (ndL (l.drop 1)))) else rn3 true l
def rn1 (l : List UInt8) : Bool × Bool := if ndL l = 0 ∨ (1 < ndL l ∧ hdN l = 48) then (false, false) else rn2 (l.drop (ndL l))
def rn0 (l : List UInt8) : Bool × Bool := if 40 < l.length then (false, false) else rn1 (if hdN l = 45 then l.drop 1 else l)

theorem ndL_le (l : List UInt8) : ndL l ≤ l.length := (List.takeWhile_sublist _).length_le
theorem hdN_at (s : ByteArray) (i : Nat) (h : i < s.size) : hdN (s.data.toList.drop i) = s[i] := by
  have : s.data.toList.drop i = s.data.toList[i] :: s.data.toList.drop (i + 1) := List.drop_eq_getElem_cons h
  rw [this]; rfl
theorem hdN_end (s : ByteArray) (i : Nat) (h : ¬ i < s.size) : hdN (s.data.toList.drop i) = 0 := by
  rw [List.drop_eq_nil_of_le (show s.data.toList.length ≤ i from Nat.le_of_not_lt h)]; rfl
theorem len_dropN (s : ByteArray) (i : Nat) : (s.data.toList.drop i).length = s.size - i := by rw [List.length_drop]; rfl
/-- A byte's test in the program, and in plain words. -/
theorem hd_is (s : ByteArray) (i : Nat) (h : i < s.size) (c : UInt8) (z : Int) (hz : (c.toNat : Int) = z) : (((s[i]).toNat : Int) == z) = decide (hdN (s.data.toList.drop i) = c) := by
  rw [hdN_at s i h, Bool.eq_iff_iff, beq_iff_eq, decide_eq_true_eq, ← UInt8.toNat_inj, ← hz]
  omega
theorem hd_not (s : ByteArray) (i : Nat) (h : ¬ i < s.size) (c : UInt8) (hc : c ≠ 0) : decide (hdN (s.data.toList.drop i) = c) = false := by
  rw [hdN_end s i h]
  exact decide_eq_false fun e => hc e.symm

def NAt (s : ByteArray) (F : List UInt8 → Bool × Bool) (i : Nat) : Prop := i ≤ s.size ∧ rn0 s.data.toList = F (s.data.toList.drop i)
def NumRn (s : ByteArray) (w : World) (e : Ending) (w' : World) : Prop := e = .returned (.tuple #[.bool (rn0 s.data.toList).1, .bool (rn0 s.data.toList).2]) ∧ w = w'
theorem numRn_of {s : ByteArray} {a b : Bool} (w : World) (h : rn0 s.data.toList = (a, b)) : NumRn s w (.returned (.tuple #[.bool a, .bool b])) w := by
  unfold NumRn; rw [h]; exact ⟨rfl, rfl⟩

set_option maxHeartbeats 4000000 in
set_option maxRecDepth 100000 in
theorem refnum_fit (s : ByteArray) (w : World) (hs : s.size ≤ 40) :
    Calls Tryd.prog 35 #[.string s] w (NumRn s w) := by
  have d40 : decide ((40 : Int) < s.size) = false := decide_eq_false (by omega)
  have HL := Lib.hid (show ¬ 40 < s.data.toList.length from by rw [← Lib.size_eq]; omega)
  go_enter Tryd.func35, Tryd.ntmps35
  go_upto_region 4 with fail
  clear d40
  go_cut [19] (fun b wc => b = .bool (decide (hdN (s.data.toList.drop 0) = 45)) ∧ w = wc)
  case first =>
    by_cases h0 : 0 < s.size
    · have d0 : decide ((0 : Int) < s.size) = true := decide_eq_true (by omega)
      have HE := Lib.hid (hd_is s 0 h0 45 45 rfl)
      go_wp2_with fail
      go_meet
      case rel => exact ⟨congrArg Value.bool HE.out, rfl⟩
    · have d0 : decide ((0 : Int) < s.size) = false := decide_eq_false (by omega)
      have HE := Lib.hid (hd_not s 0 h0 45 (by decide))
      go_wp2_with fail
      go_meet
      case rel => exact ⟨congrArg Value.bool HE.out.symm, rfl⟩
  case rest =>
    obtain ⟨rfl, rfl⟩ := hcut
    go_upto_if 19 with fail
    go_cut [4] (fun b wc => (∃ i : Nat, b = .int .i64 i ∧ NAt s rn1 i) ∧ w = wc)
    case first =>
      cases hh : decide (hdN (s.data.toList.drop 0) = 45) with
      | true =>
        have HH := Lib.hid (of_decide_eq_true hh)
        clear hh
        go_wp2_with fail
        go_meet
        case rel =>
          refine ⟨⟨1, rfl, ?_, ?_⟩, rfl⟩
          · have := HH.out
            by_cases h0 : 0 < s.size
            · omega
            · rw [hdN_end s 0 h0] at this; cases this
          · unfold rn0
            have := HH.out
            rw [List.drop_zero] at this
            rw [if_neg HL.out, if_pos this]
      | false =>
        have HH := Lib.hid (of_decide_eq_false hh)
        clear hh
        go_wp2_with fail
        go_meet
        case rel =>
          refine ⟨⟨0, rfl, Nat.zero_le _, ?_⟩, rfl⟩
          unfold rn0
          have := HH.out
          rw [List.drop_zero] at this
          rw [if_neg HL.out, if_neg this, List.drop_zero]
    case rest =>
      obtain ⟨⟨i, rfl, hi, hN⟩, rfl⟩ := hcut
      have HN := Lib.hid hN
      clear hN HL
      have HD := Lib.hid (refdig_any s i w (by omega) hi)
      obtain ⟨n, hn⟩ : ∃ n, ndL (s.data.toList.drop i) = n := ⟨_, rfl⟩
      have hle : n ≤ s.size - i := by rw [← hn, ← len_dropN]; exact ndL_le _
      rw [hn] at HD
      have HNN := Lib.hid hn
      clear hn
      go_upto_region 7 with ((go_at_call 48); (with_reducible refine HD.out.mono ?_); rintro e w1 ⟨rfl, rfl⟩)
      go_cut [36] (fun b wc => b = .bool (decide (n = 0 ∨ (1 < n ∧ hdN (s.data.toList.drop i) = 48))) ∧ w = wc)
      case first =>
        by_cases n0 : n = 0
        · have e0 : ((n : Int) == 0) = true := by simp; omega
          have HR := Lib.hid (show decide (n = 0 ∨ (1 < n ∧ hdN (s.data.toList.drop i) = 48)) = true from decide_eq_true (.inl n0))
          clear n0
          go_wp2_with fail
          go_meet
          case rel => exact ⟨congrArg Value.bool HR.out.symm, rfl⟩
        · have e0 : ((n : Int) == 0) = false := by simp; omega
          by_cases n1 : 1 < n
          · have e1 : decide ((1 : Int) < n) = true := decide_eq_true (by omega)
            have hlt : i < s.size := by omega
            have HE := Lib.hid (hd_is s i hlt 48 48 rfl)
            have HR := Lib.hid (show decide (n = 0 ∨ (1 < n ∧ hdN (s.data.toList.drop i) = 48)) = decide (hdN (s.data.toList.drop i) = 48) from by rw [Bool.eq_iff_iff, decide_eq_true_eq, decide_eq_true_eq]; exact ⟨fun h => (h.resolve_left n0).2, fun h => .inr ⟨n1, h⟩⟩)
            clear n0
            go_wp2_with fail
            go_meet
            case rel => exact ⟨congrArg Value.bool (HE.out.trans HR.out.symm), rfl⟩
          · have e1 : decide ((1 : Int) < n) = false := decide_eq_false (by omega)
            have HR := Lib.hid (show decide (n = 0 ∨ (1 < n ∧ hdN (s.data.toList.drop i) = 48)) = false from decide_eq_false (by rintro (h | h) <;> omega))
            clear n0
            go_wp2_with fail
            go_meet
            case rel => exact ⟨congrArg Value.bool HR.out.symm, rfl⟩
      case rest =>
        obtain ⟨rfl, rfl⟩ := hcut
        cases hh : decide (n = 0 ∨ (1 < n ∧ hdN (s.data.toList.drop i) = 48)) with
        | true =>
          have HF := Lib.hid (show rn0 s.data.toList = (false, false) by
            rw [HN.out]; unfold rn1; rw [HNN.out, if_pos (of_decide_eq_true hh)])
          clear hh
          go_wp2_with fail
          go_ret2
          exact numRn_of w HF.out
        | false =>
          have HN2 := Lib.hid (show NAt s rn2 (i + n) from ⟨by omega, by
            rw [HN.out]; unfold rn1; rw [HNN.out, if_neg (of_decide_eq_false hh), List.drop_drop]⟩)
          clear hh HN HNN HD
          obtain ⟨j, hj⟩ : ∃ j, i + n = j := ⟨_, rfl⟩
          rw [hj] at HN2
          have HJ : Hid ((i : Int) + n = j) := Lib.hid (by omega)
          have hjs : j ≤ s.size := by omega
          go_upto_region 10 with fail
          rw [HJ.out]
          clear HJ hj hle hi
          go_cut [49] (fun b wc => b = .bool (decide (hdN (s.data.toList.drop j) = 46)) ∧ w = wc)
          case first =>
            by_cases h0 : j < s.size
            · have d0 : decide ((j : Int) < s.size) = true := decide_eq_true (by omega)
              have HE := Lib.hid (hd_is s j h0 46 46 rfl)
              go_wp2_with fail
              go_meet
              case rel => exact ⟨congrArg Value.bool HE.out, rfl⟩
            · have d0 : decide ((j : Int) < s.size) = false := decide_eq_false (by omega)
              have HE := Lib.hid (hd_not s j h0 46 (by decide))
              go_wp2_with fail
              go_meet
              case rel => exact ⟨congrArg Value.bool HE.out.symm, rfl⟩
          case rest =>
            obtain ⟨rfl, rfl⟩ := hcut
            go_upto_if 49 with fail
            go_cut [4, 5, 6] (fun b c _ wc => (∃ (i : Nat) (wh : Bool), b = .int .i64 i ∧ c = .bool wh ∧ NAt s (rn3 wh) i) ∧ w = wc)
            case first =>
              cases hh : decide (hdN (s.data.toList.drop j) = 46) with
              | true =>
                have HH := Lib.hid (of_decide_eq_true hh)
                have hlt : j < s.size := by
                  by_cases h0 : j < s.size
                  · exact h0
                  · rw [hd_not s j h0 46 (by decide)] at hh; cases hh
                clear hh
                have HD := Lib.hid (refdig_any s (j + 1) w (by omega) (by omega))
                obtain ⟨m, hm⟩ : ∃ m, ndL (s.data.toList.drop (j + 1)) = m := ⟨_, rfl⟩
                have hml : m ≤ s.size - (j + 1) := by rw [← hm, ← len_dropN]; exact ndL_le _
                rw [hm] at HD
                have HM := Lib.hid hm
                clear hm
                have hcast : ((j + 1 : Nat) : Int) = (j : Int) + 1 := by omega
                rw [hcast] at HD
                clear hcast
                by_cases m0 : m = 0
                · have e0 : ((m : Int) == 0) = true := by simp; omega
                  have HF := Lib.hid (show rn0 s.data.toList = (false, false) by
                    rw [HN2.out.2]; unfold rn2; rw [if_pos HH.out, List.drop_drop, HM.out, if_pos m0])
                  clear m0
                  go_wp2_with ((go_at_call 48); (with_reducible refine HD.out.mono ?_); rintro e w1 ⟨rfl, rfl⟩)
                  go_ret2
                  exact numRn_of w HF.out
                · have e0 : ((m : Int) == 0) = false := by simp; omega
                  have HF := Lib.hid (show NAt s (rn3 false) (j + 1 + m) from ⟨by omega, by
                    rw [HN2.out.2]; unfold rn2; rw [if_pos HH.out, List.drop_drop, HM.out, if_neg m0, List.drop_drop]⟩)
                  clear m0
                  go_wp2_with ((go_at_call 48); (with_reducible refine HD.out.mono ?_); rintro e w1 ⟨rfl, rfl⟩)
                  go_meet
                  case rel => exact ⟨⟨j + 1 + m, false, by go_num, rfl, HF.out⟩, rfl⟩
              | false =>
                have HH := Lib.hid (of_decide_eq_false hh)
                clear hh
                go_wp2_with fail
                go_meet
                case rel => exact ⟨⟨j, true, rfl, rfl, HN2.out.1, by rw [HN2.out.2]; unfold rn2; rw [if_neg HH.out]⟩, rfl⟩
            case rest =>
              obtain ⟨⟨i, wh, rfl, rfl, hi, hN⟩, rfl⟩ := hcut
              have HN3 := Lib.hid hN
              clear hN HN2
              go_upto_region 15 with fail
              go_cut [75] (fun b wc => b = .bool (decide (hdN (s.data.toList.drop i) = 101 ∨ hdN (s.data.toList.drop i) = 69)) ∧ w = wc)
              case first =>
                by_cases h0 : i < s.size
                · have d0 : decide ((i : Int) < s.size) = true := decide_eq_true (by omega)
                  have HE := Lib.hid (hd_is s i h0 101 101 rfl)
                  have HE2 := Lib.hid (hd_is s i h0 69 69 rfl)
                  cases hb : (((s[i]).toNat : Int) == 101) with
                  | true =>
                    have HR := Lib.hid (show decide (hdN (s.data.toList.drop i) = 101 ∨ hdN (s.data.toList.drop i) = 69) = true from decide_eq_true (.inl (by have := HE.out; rw [hb] at this; exact of_decide_eq_true this.symm)))
                    go_wp2_with fail
                    go_meet
                    case rel => exact ⟨congrArg Value.bool HR.out.symm, rfl⟩
                  | false =>
                    have HR := Lib.hid (show decide (hdN (s.data.toList.drop i) = 101 ∨ hdN (s.data.toList.drop i) = 69) = decide (hdN (s.data.toList.drop i) = 69) from by
                      have h1 := HE.out; rw [hb] at h1
                      have h2 := of_decide_eq_false h1.symm
                      rw [Bool.eq_iff_iff, decide_eq_true_eq, decide_eq_true_eq]; exact ⟨fun h => h.resolve_left h2, .inr⟩)
                    go_wp2_with fail
                    go_meet
                    case rel => exact ⟨congrArg Value.bool (HE2.out.trans HR.out.symm), rfl⟩
                · have d0 : decide ((i : Int) < s.size) = false := decide_eq_false (by omega)
                  have HR := Lib.hid (show decide (hdN (s.data.toList.drop i) = 101 ∨ hdN (s.data.toList.drop i) = 69) = false from decide_eq_false (by rw [hdN_end s i h0]; decide))
                  go_wp2_with fail
                  go_meet
                  case rel => exact ⟨congrArg Value.bool HR.out.symm, rfl⟩
              case rest =>
                obtain ⟨rfl, rfl⟩ := hcut
                go_upto_if 75 with fail
                go_cut [4, 5, 6] (fun b c _ wc => (∃ (i : Nat) (wh : Bool), b = .int .i64 i ∧ c = .bool wh ∧ NAt s (rn5 wh) i) ∧ w = wc)
                case first =>
                  cases hh : decide (hdN (s.data.toList.drop i) = 101 ∨ hdN (s.data.toList.drop i) = 69) with
                  | true =>
                    have HH := Lib.hid (of_decide_eq_true hh)
                    have hlt : i < s.size := by
                      by_cases h0 : i < s.size
                      · exact h0
                      · have := of_decide_eq_true hh
                        rw [hdN_end s i h0] at this; exact absurd this (by decide)
                    clear hh
                    obtain ⟨j, hj⟩ : ∃ j, i + 1 = j := ⟨_, rfl⟩
                    have HJ : Hid ((i : Int) + 1 = j) := Lib.hid (by omega)
                    have hjs : j ≤ s.size := by omega
                    have HN4 := Lib.hid (show rn0 s.data.toList = rn4 (if hdN (s.data.toList.drop j) = 43 ∨ hdN (s.data.toList.drop j) = 45 then (s.data.toList.drop j).drop 1 else s.data.toList.drop j) by
                      rw [HN3.out]; unfold rn3; rw [if_pos HH.out, List.drop_drop, hj])
                    go_upto_region 17 with fail
                    rw [HJ.out]
                    clear HJ hj hi hlt HH HN3
                    go_cut [93] (fun b wc => b = .bool (decide (hdN (s.data.toList.drop j) = 43 ∨ hdN (s.data.toList.drop j) = 45)) ∧ w = wc)
                    case first =>
                      by_cases h0 : j < s.size
                      · have d0 : decide ((j : Int) < s.size) = true := decide_eq_true (by omega)
                        have HE := Lib.hid (hd_is s j h0 43 43 rfl)
                        have HE2 := Lib.hid (hd_is s j h0 45 45 rfl)
                        cases hb : (((s[j]).toNat : Int) == 43) with
                        | true =>
                          have HR := Lib.hid (show decide (hdN (s.data.toList.drop j) = 43 ∨ hdN (s.data.toList.drop j) = 45) = true from decide_eq_true (.inl (by have := HE.out; rw [hb] at this; exact of_decide_eq_true this.symm)))
                          go_wp2_with fail
                          go_meet
                          case rel => exact ⟨congrArg Value.bool HR.out.symm, rfl⟩
                        | false =>
                          have HR := Lib.hid (show decide (hdN (s.data.toList.drop j) = 43 ∨ hdN (s.data.toList.drop j) = 45) = decide (hdN (s.data.toList.drop j) = 45) from by
                            have h1 := HE.out; rw [hb] at h1
                            have h2 := of_decide_eq_false h1.symm
                            rw [Bool.eq_iff_iff, decide_eq_true_eq, decide_eq_true_eq]; exact ⟨fun h => h.resolve_left h2, .inr⟩)
                          go_wp2_with fail
                          go_meet
                          case rel => exact ⟨congrArg Value.bool (HE2.out.trans HR.out.symm), rfl⟩
                      · have d0 : decide ((j : Int) < s.size) = false := decide_eq_false (by omega)
                        have HR := Lib.hid (show decide (hdN (s.data.toList.drop j) = 43 ∨ hdN (s.data.toList.drop j) = 45) = false from decide_eq_false (by rw [hdN_end s j h0]; decide))
                        go_wp2_with fail
                        go_meet
                        case rel => exact ⟨congrArg Value.bool HR.out.symm, rfl⟩
                    case rest =>
                      obtain ⟨rfl, rfl⟩ := hcut
                      go_upto_if 93 with fail
                      go_cut [4] (fun b wc => (∃ i : Nat, b = .int .i64 i ∧ NAt s rn4 i) ∧ w = wc)
                      case first =>
                        cases hh : decide (hdN (s.data.toList.drop j) = 43 ∨ hdN (s.data.toList.drop j) = 45) with
                        | true =>
                          have HH := Lib.hid (of_decide_eq_true hh)
                          have hlt : j < s.size := by
                            by_cases h0 : j < s.size
                            · exact h0
                            · have := of_decide_eq_true hh
                              rw [hdN_end s j h0] at this; exact absurd this (by decide)
                          clear hh
                          go_wp2_with fail
                          go_meet
                          case rel => exact ⟨⟨j + 1, by go_num, by omega, by rw [HN4.out, if_pos HH.out, List.drop_drop]⟩, rfl⟩
                        | false =>
                          have HH := Lib.hid (of_decide_eq_false hh)
                          clear hh
                          go_wp2_with fail
                          go_meet
                          case rel => exact ⟨⟨j, rfl, hjs, by rw [HN4.out, if_neg HH.out]⟩, rfl⟩
                      case rest =>
                        obtain ⟨⟨i, rfl, hi, hN⟩, rfl⟩ := hcut
                        have HN := Lib.hid hN
                        clear hN HN4
                        have HD := Lib.hid (refdig_any s i w (by omega) hi)
                        obtain ⟨m, hm⟩ : ∃ m, ndL (s.data.toList.drop i) = m := ⟨_, rfl⟩
                        have hml : m ≤ s.size - i := by rw [← hm, ← len_dropN]; exact ndL_le _
                        rw [hm] at HD
                        have HM := Lib.hid hm
                        clear hm
                        by_cases m0 : m = 0
                        · have e0 : ((m : Int) == 0) = true := by simp; omega
                          have HF := Lib.hid (show rn0 s.data.toList = (false, false) by
                            rw [HN.out]; unfold rn4; rw [HM.out, if_pos m0])
                          clear m0
                          go_wp2_with ((go_at_call 48); (with_reducible refine HD.out.mono ?_); rintro e w1 ⟨rfl, rfl⟩)
                          go_ret2
                          exact numRn_of w HF.out
                        · have e0 : ((m : Int) == 0) = false := by simp; omega
                          have HF := Lib.hid (show NAt s (rn5 false) (i + m) from ⟨by omega, by
                            rw [HN.out]; unfold rn4; rw [HM.out, if_neg m0, List.drop_drop]⟩)
                          clear m0
                          go_wp2_with ((go_at_call 48); (with_reducible refine HD.out.mono ?_); rintro e w1 ⟨rfl, rfl⟩)
                          go_meet
                          case rel => exact ⟨⟨i + m, false, by go_num, rfl, HF.out⟩, rfl⟩
                  | false =>
                    have HH := Lib.hid (of_decide_eq_false hh)
                    clear hh
                    go_wp2_with fail
                    go_meet
                    case rel => exact ⟨⟨i, wh, rfl, rfl, hi, by rw [HN3.out]; unfold rn3; rw [if_neg HH.out]⟩, rfl⟩
                case rest =>
                  obtain ⟨⟨j, wh, rfl, rfl, hj, hN⟩, rfl⟩ := hcut
                  have HN := Lib.hid hN
                  clear hN HN3
                  by_cases h0 : j = s.size
                  · have d0 : ((j : Int) != s.size) = false := by simp; omega
                    have HF := Lib.hid (show rn0 s.data.toList = (wh, true) by
                      rw [HN.out]; unfold rn5; rw [if_pos (by rw [len_dropN]; omega)])
                    clear h0
                    go_wp2_with fail
                    go_ret2
                    exact numRn_of w HF.out
                  · have d0 : ((j : Int) != s.size) = true := by simp; omega
                    have HF := Lib.hid (show rn0 s.data.toList = (false, false) by
                      rw [HN.out]; unfold rn5; rw [if_neg (by rw [len_dropN]; omega)])
                    clear h0
                    go_wp2_with fail
                    go_ret2
                    exact numRn_of w HF.out

set_option maxHeartbeats 400000 in
theorem refnum_rn (s : ByteArray) (w : World) : Calls Tryd.prog 35 #[.string s] w (NumRn s w) := by
  by_cases hs : s.size ≤ 40
  · exact refnum_fit s w hs
  · have d40 : decide ((40 : Int) < s.size) = true := decide_eq_true (by omega)
    have HF := Lib.hid (show rn0 s.data.toList = (false, false) by
      unfold rn0; rw [if_pos (by rw [← Lib.size_eq]; omega)])
    clear hs
    go_enter Tryd.func35, Tryd.ntmps35
    go_wp2_with fail
    go_ret2
    exact numRn_of w HF.out

end Go.Proofs.YtbcenaljaoejkaaDoor

/-
  The document's Number and the program's say the same.
-/
namespace Go.Proofs.YtbcenaljaoejkaaDoor
open Go.RowKit

theorem dd_drop (l : List UInt8) : dd l = l.drop (ndL l) := by
  induction l with
  | nil => rfl
  | cons a t ih =>
    rw [ndL_cons]
    unfold dd at ih ⊢
    rw [List.dropWhile_cons]
    cases digU a with
    | true => simpa using ih
    | false => rfl
theorem cutD_eq (l : List UInt8) : cutDigitsP l = (l.drop (ndL l), decide (ndL l ≠ 0)) := by
  unfold cutDigitsP
  rw [dd_drop]
  congr 1
  have := ndL_le l
  rw [List.length_drop, Bool.eq_iff_iff, decide_eq_true_eq, decide_eq_true_eq]
  omega
theorem begin_hd (l : List UInt8) (a b : UInt8) (ha : a ≠ 0) (hb : b ≠ 0) : beginB l [a, b] = decide (hdN l = a ∨ hdN l = b) := by
  cases l with
  | nil => exact (decide_eq_false (fun h => h.elim (fun h => ha h.symm) (fun h => hb h.symm))).symm
  | cons c r =>
    show [a, b].contains c = decide (c = a ∨ c = b)
    rw [Bool.eq_iff_iff, decide_eq_true_eq, List.contains_iff_mem]
    simp
theorem pre_hd (l : List UInt8) (a : UInt8) (ha : a ≠ 0) : Lib.hasPrefix l [a] = decide (hdN l = a) := by
  cases l with
  | nil => exact (decide_eq_false (fun h => ha h.symm)).symm
  | cons c r =>
    show List.isPrefixOf [a] (c :: r) = decide (c = a)
    rw [Bool.eq_iff_iff, decide_eq_true_eq, List.isPrefixOf_iff_prefix, List.cons_prefix_cons]
    exact ⟨fun h => h.1.symm, fun h => ⟨h.symm, List.nil_prefix⟩⟩
theorem trim_hd (l : List UInt8) (a : UInt8) (ha : a ≠ 0) : Lib.trimPrefix l [a] = if hdN l = a then l.drop 1 else l := by
  unfold Lib.trimPrefix
  have h := pre_hd l a ha
  split
  · rename_i h1
    rw [if_pos (of_decide_eq_true (h.symm.trans h1))]
    rfl
  · rename_i h1
    rw [if_neg (fun e => h1 (h.trans (decide_eq_true e)))]

def okE (l : List UInt8) : Bool := (cutExponentP l).2 && (cutExponentP l).1.isEmpty
theorem rn5_eq (wh : Bool) (l : List UInt8) : rn5 wh l = (l.isEmpty && wh, l.isEmpty) := by
  unfold rn5
  cases l <;> simp
theorem rn3_eq (wh : Bool) (l : List UInt8) : rn3 wh l = (okE l && (wh && l.isEmpty), okE l) := by
  unfold rn3 okE cutExponentP
  rw [begin_hd l 101 69 (by decide) (by decide)]
  by_cases h : hdN l = 101 ∨ hdN l = 69
  · rw [if_pos h, if_pos (decide_eq_true h), cutD_eq]
    have hl : l.isEmpty = false := by
      cases l with
      | nil => exact absurd h (by decide)
      | cons => rfl
    have hs : (if hdN (l.drop 1) = 43 ∨ hdN (l.drop 1) = 45 then (l.drop 1).drop 1 else l.drop 1) = signCut (l.drop 1) := by
      unfold signCut
      rw [begin_hd (l.drop 1) 43 45 (by decide) (by decide)]
      by_cases h2 : hdN (l.drop 1) = 43 ∨ hdN (l.drop 1) = 45
      · rw [if_pos h2, if_pos (decide_eq_true h2)]
      · rw [if_neg h2, if_neg (by rw [decide_eq_false h2]; decide)]
    rw [hs, hl]
    generalize signCut (l.drop 1) = m
    unfold rn4
    by_cases h3 : ndL m = 0
    · rw [if_pos h3]; simp [h3]
    · rw [if_neg h3, rn5_eq]; simp [h3]
  · rw [if_neg h, if_neg (by rw [decide_eq_false h]; decide), rn5_eq]
    cases l <;> simp

def okF (l : List UInt8) : Bool := (cutFractionP l).2 && okE (cutFractionP l).1
theorem rn2_eq (l : List UInt8) : rn2 l = (okF l && l.isEmpty, okF l) := by
  unfold rn2 okF cutFractionP
  rw [pre_hd l 46 (by decide)]
  by_cases h : hdN l = 46
  · rw [if_pos h, if_pos (decide_eq_true h), trim_hd l 46 (by decide), if_pos h, cutD_eq]
    have hl : l.isEmpty = false := by
      cases l with
      | nil => exact absurd h (by decide)
      | cons => rfl
    rw [hl]
    generalize l.drop 1 = m
    by_cases h3 : ndL m = 0
    · rw [if_pos h3]; simp [h3]
    · rw [if_neg h3, rn3_eq]; simp [h3]
  · rw [if_neg h, if_neg (by rw [decide_eq_false h]; decide), rn3_eq]
    simp
def okW (l : List UInt8) : Bool := (cutWholeP l).2 && okF (cutWholeP l).1
theorem digF {t : List UInt8} (h : ndL t ≠ 0) : okF t = false := by
  cases t with
  | nil => exact absurd rfl h
  | cons a t =>
    rw [ndL_cons] at h
    have hd : digU a = true := by
      cases hx : digU a with
      | true => rfl
      | false => rw [hx] at h; exact absurd rfl h
    have hn : ∀ c : UInt8, digU c = false → a ≠ c := by
      rintro c hc rfl; rw [hd] at hc; cases hc
    unfold okF cutFractionP
    have h1 : decide (hdN (a :: t) = 46) = false := decide_eq_false (hn 46 (by decide))
    have h2 : decide (hdN (a :: t) = 101 ∨ hdN (a :: t) = 69) = false := decide_eq_false (fun h => h.elim (fun h => hn 101 (by decide) h) (fun h => hn 69 (by decide) h))
    rw [pre_hd _ 46 (by decide), h1]
    show (true && okE (a :: t)) = false
    unfold okE cutExponentP
    rw [begin_hd _ 101 69 (by decide) (by decide), h2]
    rfl
theorem rn1_eq (l : List UInt8) : rn1 l = (okW l && (cutWholeP l).1.isEmpty, okW l) := by
  unfold rn1 okW cutWholeP
  rw [pre_hd l 48 (by decide)]
  by_cases h : hdN l = 48
  · rw [if_pos (decide_eq_true h), trim_hd l 48 (by decide), if_pos h]
    cases l with
    | nil => exact absurd h (by decide)
    | cons a t =>
      obtain rfl : a = 48 := h
      rw [ndL_cons, show digU 48 = true from rfl, if_pos rfl]
      show _ = (true && okF t && t.isEmpty, true && okF t)
      by_cases h2 : ndL t = 0
      · rw [h2, if_neg (fun h => h.elim (fun h => by cases h) (fun h => absurd h.1 (by omega))), rn2_eq]
        simp
      · rw [if_pos (.inr ⟨by omega, rfl⟩), digF h2]
        rfl
  · rw [decide_eq_false h]
    simp only [Bool.false_eq_true, if_false]
    rw [cutD_eq]
    by_cases h2 : ndL l = 0
    · rw [if_pos (.inl h2)]; simp [h2]
    · rw [if_neg (fun h3 => h3.elim h2 (fun h3 => h h3.2)), rn2_eq]; simp [h2]
theorem rn0_eq (l : List UInt8) : rn0 l = (numWhole l, numOk l) := by
  unfold rn0 numWhole
  have e : numOk l = (decide (l.length ≤ 40) && okW (Lib.trimPrefix l [45])) := by
    unfold numOk numE numF numW okW okF okE
    simp only [Bool.and_assoc]
  by_cases h : 40 < l.length
  · rw [if_pos h, e, decide_eq_false (by omega)]; rfl
  · rw [if_neg h, e, decide_eq_true (by omega), rn1_eq, ← trim_hd l 45 (by decide)]
    rfl

theorem refnum_any (s : ByteArray) (w : World) : Calls Tryd.prog 35 #[.string s] w fun e w' => e = .returned (.tuple #[.bool (numWhole s.data.toList), .bool (numOk s.data.toList)]) ∧ w = w' := by
  have h := refnum_rn s w
  unfold NumRn at h
  rw [rn0_eq] at h
  exact h

end Go.Proofs.YtbcenaljaoejkaaDoor

/-
  What the document's check and Check answer: the same as the program's.
-/
namespace Go.Proofs.YtbcenaljaoejkaaDoor
open Go.RowKit

theorem chk_leaf {d : Nat} {k : Int} {s : ByteArray} (h7 : k ≠ 7) (h8 : k ≠ 8) : chkAt (d + 1) (.mk k s [] []) = leafB k (vbl s) := by
  unfold chkAt
  rw [self_leaf (x := .mk k s [] []) h7 h8]
  show (true && true && leafB k (vbl s) && true) = _
  simp
theorem chk_ns {d : Nat} {k : Int} {s : ByteArray} {ns : List ByteArray} {ps : List JV} (h7 : k ≠ 7) (h8 : k ≠ 8) (h : 0 < ns.length) : chkAt (d + 1) (.mk k s ns ps) = false := by
  unfold chkAt
  rw [self_leaf (x := .mk k s ns ps) h7 h8]
  cases ns with
  | nil => exact absurd h (by decide)
  | cons => rfl
theorem chk_ps {d : Nat} {k : Int} {s : ByteArray} {ns : List ByteArray} {ps : List JV} (h7 : k ≠ 7) (h8 : k ≠ 8) (h : 0 < ps.length) : chkAt (d + 1) (.mk k s ns ps) = false := by
  unfold chkAt
  rw [self_leaf (x := .mk k s ns ps) h7 h8]
  cases ps with
  | nil => exact absurd h (by decide)
  | cons => show ((ns.isEmpty && false && _) && _) = false; simp
theorem leaf_none {k : Int} {l : List UInt8} (h : k < 1 ∨ 5 < k) : leafB k l = false := by
  unfold leafB
  rw [if_neg (by omega), if_neg (by omega), if_neg (by omega), if_neg (by omega), if_neg (by omega)]


set_option maxHeartbeats 4000000 in
set_option maxRecDepth 100000 in
theorem refcheck_any : ∀ (d : Nat), d ≤ 12 → ∀ (D : Int), D = d → ∀ (B n : Nat) (x : JV) (v : Value) (w : World), B ≤ w.heap.size → Rd w B n x v →
    Calls Tryd.prog 29 #[v, .int .i64 D] w (BoolBelow (chkAt d x) w) := by
  intro d
  induction d with
  | zero =>
    intro _ D hD B n x v w hB h
    obtain ⟨an, cn, ap, cp, rfl⟩ := h.shape
    have HN := refnum_any x.s
    subst hD
    go_enter Tryd.func29, Tryd.ntmps29
    go_wp2_with ((go_at_call 35); (with_reducible refine (HN _).mono ?_); rintro e w1 ⟨rfl, rfl⟩)
    go_ret
    exact boolBelow_of rfl ((Below.refl _ w).alloc (Nat.le_refl _) _)
  | succ d ih =>
    intro hd D hD B n x v w hB h
    match n, h with
    | n + 1, h =>
    obtain ⟨an, cn, ap, cp, rfl, ⟨z1, z2, z3, z4, z5⟩, hs, hr⟩ := h
    obtain ⟨k, s, ns, ps⟩ := x
    simp only [JV.k, JV.s, JV.ns, JV.ps] at *
    have HN : ∀ W, Calls Tryd.prog 35 #[.string s] W fun e w' => e = .returned (.tuple #[.bool (numWhole (vbl s)), .bool (numOk (vbl s))]) ∧ W = w' := fun W => refnum_any s W
    have HI := Lib.hid ih
    clear ih
    have HD : Hid (D - 1 = d) := Lib.hid (by omega)
    have hD1 : decide (D < 1) = false := decide_eq_false (by omega)
    have hD2 : 1 ≤ D := by omega
    have hD3 : D ≤ 12 := by omega
    clear hD
    have hbA : ∀ o, Below w.heap.size w (w.alloc o) := fun o => (Below.refl _ w).alloc (Nat.le_refl _) o
    by_cases h7 : k = 7
    · subst h7
      by_cases hn0 : 0 < ns.length
      · have e0 : decide ((0 : Int) < ns.length) = true := decide_eq_true (by omega)
        have HF := Lib.hid (show false = chkAt (d + 1) (.mk 7 s ns ps) by
          unfold chkAt
          rw [self_list (x := .mk 7 s ns ps) rfl]
          cases ns with
          | nil => exact absurd hn0 (by decide)
          | cons => show false = ((_ && false) && _); simp)
        go_enter Tryd.func29, Tryd.ntmps29
        go_wp2_with ((go_at_call 35); (with_reducible refine (HN _).mono ?_); rintro e w1 ⟨rfl, rfl⟩)
        go_ret
        exact boolBelow_of HF.out (hbA _)
      · have e0 : decide ((0 : Int) < ns.length) = false := decide_eq_false (by omega)
        have HG := Lib.hid (show chkAt (d + 1) (.mk 7 s ns ps) = ((vbl s).isEmpty && ps.all (chkAt d)) by
          obtain rfl : ns = [] := List.eq_nil_of_length_eq_zero (by omega)
          unfold chkAt
          rw [self_list (x := .mk 7 s [] ps) rfl]
          show ((_ && true) && _) = _
          rw [Bool.and_true]
          rfl)
        go_enter Tryd.func29, Tryd.ntmps29
        go_wp2_with ((go_at_call 35); (with_reducible refine (HN _).mono ?_); rintro e w1 ⟨rfl, rfl⟩)

        obtain ⟨W1, hW1⟩ : ∃ W1, W1 = w.alloc (.cells #[.int .i64 7, .string s, .slice an ns.length cn, .slice ap ps.length cp] 26) := ⟨_, rfl⟩
        rw [← hW1]
        have B1 : Below w.heap.size w W1 := by rw [hW1]; exact hbA _
        have s1 : W1.heap.size = w.heap.size + 1 := by rw [hW1]; simp
        have c1 : W1.cell? ⟨w.heap.size, 3, none⟩ = some (.slice ap ps.length cp) := by rw [hW1]; go_simp
        have c0 : W1.cell? ⟨w.heap.size, 1, none⟩ = some (.string s) := by rw [hW1]; go_simp
        clear hW1 hbA
        clear e0
        go_loopw [7] (fun i wr => ChkRel d ps W1 i wr) (fun i _ => ps.length - (intOf i).toNat)
        case atStart => exact ⟨0, Nat.zero_le _, rfl, Below.refl _ _, rfl⟩
        case round =>
          obtain ⟨q, hk, rfl, hbw, hall⟩ := hrel
          have HA := Lib.hid hall
          clear hall
          have c2 : wr.cell? ⟨w.heap.size, 3, none⟩ = some (.slice ap ps.length cp) := (hbw.cell (p := ⟨w.heap.size, 3, none⟩) (by show w.heap.size < _; omega)).trans c1
          have c3 : wr.cell? ⟨w.heap.size, 1, none⟩ = some (.string s) := (hbw.cell (p := ⟨w.heap.size, 1, none⟩) (by show w.heap.size < _; omega)).trans c0
          have hws := hbw.size
          have BW := B1.trans (hbw.mono B1.size)
          by_cases hlt : q < ps.length
          · have HS := Lib.hid (all_step (chkAt d) ps q hlt)
            obtain ⟨b, off, y, an', cn', ap', cp', HY, rfl, hb, hRr, g0, g1, g2, g3⟩ := hr.elem hlt (BW.mono hB)
            rw [HY.out] at HS
            clear hr HY c1 c0
            have hih := HI.out (by omega) (D - 1) HD.out B n y _ wr (by omega) hRr
            cases hc : chkAt d y with
            | false =>
              rw [hc] at hih HS
              clear hc
              go_wp2_with ((go_at_call 29); (with_reducible refine hih.mono ?_); rintro e w2 ⟨rfl, b2⟩)
              go_ret
              exact boolBelow_of (by rw [HG.out, HA.out, HS.out]; simp) (BW.trans (b2.mono BW.size))
            | true =>
              rw [hc] at hih HS
              clear hc
              go_wp2_with ((go_at_call 29); (with_reducible refine hih.mono ?_); rintro e w2 ⟨rfl, b2⟩)
              go_roundw
              case rel => exact ⟨q + 1, by omega, by go_num, hbw.trans (b2.mono hws), by rw [HA.out, HS.out]; rfl⟩
              case measure => simp [intOf]; omega
          · have HE := Lib.hid (show chkAt (d + 1) (.mk 7 s ns ps) = (vbl s).isEmpty by rw [HG.out, HA.out, List.drop_of_length_le (by omega)]; simp)
            rcases str_cases s with rfl | ⟨he, HZ⟩
            · go_wp2_with fail
              go_ret
              exact boolBelow_of (by rw [HE.out]; rfl) BW
            · go_wp2_with fail
              go_ret
              exact boolBelow_of (by rw [HE.out, HZ.out]) BW
    by_cases h8 : k = 8
    · subst h8
      by_cases hn0 : ns.length = ps.length
      · have e0 : ((ns.length : Int) != (ps.length : Int)) = false := by simp; omega
        have HL := Lib.hid hn0
        clear hn0
        have hnm := fun W (hb : Below w.heap.size w W) => refnames_any B an cn ns W z2 (hs.below (hb.mono hB))
        cases hok : nmOk ns with
        | false =>
          rw [hok] at hnm
          have HF := Lib.hid (show false = chkAt (d + 1) (.mk 8 s ns ps) by
            unfold chkAt
            rw [self_obj (x := .mk 8 s ns ps) rfl]
            show false = ((_ && _ && nmOk ns) && _)
            rw [hok]
            simp)
          clear hok
          go_enter Tryd.func29, Tryd.ntmps29
          go_wp2_with (first | ((go_at_call 35); (with_reducible refine (HN _).mono ?_); rintro e w1 ⟨rfl, rfl⟩) | ((go_at_call 37); (with_reducible refine (hnm _ (hbA _)).mono ?_); rintro e w2 ⟨rfl, m, rfl⟩))
          go_ret
          exact boolBelow_of HF.out ((hbA _).trans ((drewN_below _ _).mono (by simp)))
        | true =>
          rw [hok] at hnm
          have HG := Lib.hid (show chkAt (d + 1) (.mk 8 s ns ps) = ((vbl s).isEmpty && ps.all (chkAt d)) by
            unfold chkAt
            rw [self_obj (x := .mk 8 s ns ps) rfl]
            show ((_ && decide (ns.length = ps.length) && nmOk ns) && _) = _
            rw [hok, decide_eq_true HL.out]
            simp
            rfl)
          clear hok
          go_enter Tryd.func29, Tryd.ntmps29
          go_wp2_with (first | ((go_at_call 35); (with_reducible refine (HN _).mono ?_); rintro e w1 ⟨rfl, rfl⟩) | ((go_at_call 37); (with_reducible refine (hnm _ (hbA _)).mono ?_); rintro e w2 ⟨rfl, m, rfl⟩))

          obtain ⟨W1, hW1⟩ : ∃ W1, W1 = w.alloc (.cells #[.int .i64 8, .string s, .slice an ns.length cn, .slice ap ps.length cp] 26) := ⟨_, rfl⟩
          rw [← hW1]
          have B1 : Below w.heap.size w W1 := by rw [hW1]; exact hbA _
          have s1 : W1.heap.size = w.heap.size + 1 := by rw [hW1]; simp
          have c1 : W1.cell? ⟨w.heap.size, 3, none⟩ = some (.slice ap ps.length cp) := by rw [hW1]; go_simp
          have c0 : W1.cell? ⟨w.heap.size, 1, none⟩ = some (.string s) := by rw [hW1]; go_simp
          clear hW1 hbA
          clear e0
          go_loopw [7] (fun i wr => ChkRel d ps W1 i wr) (fun i _ => ps.length - (intOf i).toNat)
          case atStart => exact ⟨0, Nat.zero_le _, rfl, drewN_below _ _, rfl⟩
          case round =>
            obtain ⟨q, hk, rfl, hbw, hall⟩ := hrel
            have HA := Lib.hid hall
            clear hall
            have c2 : wr.cell? ⟨w.heap.size, 3, none⟩ = some (.slice ap ps.length cp) := (hbw.cell (p := ⟨w.heap.size, 3, none⟩) (by show w.heap.size < _; omega)).trans c1
            have c3 : wr.cell? ⟨w.heap.size, 1, none⟩ = some (.string s) := (hbw.cell (p := ⟨w.heap.size, 1, none⟩) (by show w.heap.size < _; omega)).trans c0
            have hws := hbw.size
            have BW := B1.trans (hbw.mono B1.size)
            by_cases hlt : q < ps.length
            · have HS := Lib.hid (all_step (chkAt d) ps q hlt)
              obtain ⟨b, off, y, an', cn', ap', cp', HY, rfl, hb, hRr, g0, g1, g2, g3⟩ := hr.elem hlt (BW.mono hB)
              rw [HY.out] at HS
              clear hr HY c1 c0
              have hih := HI.out (by omega) (D - 1) HD.out B n y _ wr (by omega) hRr
              cases hc : chkAt d y with
              | false =>
                rw [hc] at hih HS
                clear hc
                go_wp2_with ((go_at_call 29); (with_reducible refine hih.mono ?_); rintro e w2 ⟨rfl, b2⟩)
                go_ret
                exact boolBelow_of (by rw [HG.out, HA.out, HS.out]; simp) (BW.trans (b2.mono BW.size))
              | true =>
                rw [hc] at hih HS
                clear hc
                go_wp2_with ((go_at_call 29); (with_reducible refine hih.mono ?_); rintro e w2 ⟨rfl, b2⟩)
                go_roundw
                case rel => exact ⟨q + 1, by omega, by go_num, hbw.trans (b2.mono hws), by rw [HA.out, HS.out]; rfl⟩
                case measure => simp [intOf]; omega
            · have HE := Lib.hid (show chkAt (d + 1) (.mk 8 s ns ps) = (vbl s).isEmpty by rw [HG.out, HA.out, List.drop_of_length_le (by omega)]; simp)
              rcases str_cases s with rfl | ⟨he, HZ⟩
              · go_wp2_with fail
                go_ret
                exact boolBelow_of (by rw [HE.out]; rfl) BW
              · go_wp2_with fail
                go_ret
                exact boolBelow_of (by rw [HE.out, HZ.out]) BW
      · have e0 : ((ns.length : Int) != (ps.length : Int)) = true := by simp; omega
        have HF := Lib.hid (show false = chkAt (d + 1) (.mk 8 s ns ps) by
          unfold chkAt
          rw [self_obj (x := .mk 8 s ns ps) rfl]
          show false = ((_ && decide (ns.length = ps.length) && nmOk ns) && _)
          rw [decide_eq_false hn0]
          simp)
        clear hn0
        go_enter Tryd.func29, Tryd.ntmps29
        go_wp2_with ((go_at_call 35); (with_reducible refine (HN _).mono ?_); rintro e w1 ⟨rfl, rfl⟩)
        go_ret
        exact boolBelow_of HF.out (hbA _)
    by_cases h9 : k < 7
    · have e9 : decide (k < 7) = true := decide_eq_true h9
      by_cases hp0 : 0 < ps.length
      · have e0 : decide ((0 : Int) < ps.length) = true := decide_eq_true (by omega)
        have HF := Lib.hid (chk_ps (d := d) (s := s) (ns := ns) h7 h8 hp0)
        clear h7 h8 h9
        go_enter Tryd.func29, Tryd.ntmps29
        go_wp2_with ((go_at_call 35); (with_reducible refine (HN _).mono ?_); rintro e w1 ⟨rfl, rfl⟩)
        go_ret
        exact boolBelow_of HF.out.symm (hbA _)
      · have e0 : decide ((0 : Int) < ps.length) = false := decide_eq_false (by omega)
        by_cases hn0 : 0 < ns.length
        · have e1 : decide ((0 : Int) < ns.length) = true := decide_eq_true (by omega)
          have HF := Lib.hid (chk_ns (d := d) (s := s) (ps := ps) h7 h8 hn0)
          clear h7 h8 h9
          go_enter Tryd.func29, Tryd.ntmps29
          go_wp2_with ((go_at_call 35); (with_reducible refine (HN _).mono ?_); rintro e w1 ⟨rfl, rfl⟩)
          go_ret
          exact boolBelow_of HF.out.symm (hbA _)
        · have e1 : decide ((0 : Int) < ns.length) = false := decide_eq_false (by omega)
          have HC := Lib.hid (show chkAt (d + 1) (.mk k s ns ps) = leafB k (vbl s) by
            obtain rfl : ns = [] := List.eq_nil_of_length_eq_zero (by omega)
            obtain rfl : ps = [] := List.eq_nil_of_length_eq_zero (by omega)
            exact chk_leaf h7 h8)
          by_cases h1 : k = 1
          · subst h1
            go_enter Tryd.func29, Tryd.ntmps29
            go_wp2_with ((go_at_call 35); (with_reducible refine (HN _).mono ?_); rintro e w1 ⟨rfl, rfl⟩)
            go_ret
            exact boolBelow_of (by rw [HC.out]; show _ = (vbl s).isEmpty; first | exact empty_eq s | exact empty_eq' s) (hbA _)
          by_cases h2 : k = 2
          · subst h2
            go_enter Tryd.func29, Tryd.ntmps29
            go_wp2_with ((go_at_call 35); (with_reducible refine (HN _).mono ?_); rintro e w1 ⟨rfl, rfl⟩)
            · go_ret
              exact boolBelow_of (by rw [HC.out]; exact boolB_true ‹_›) (hbA _)
            · go_ret
              exact boolBelow_of (by rw [HC.out]; exact boolB_eq s) (hbA _)
          by_cases h3 : k = 3
          · subst h3
            cases ho : numOk (vbl s) with
            | false =>
              rw [ho] at HN
              have HL := Lib.hid (show false = leafB 3 (vbl s) by unfold leafB; simp [ho])
              clear ho
              go_enter Tryd.func29, Tryd.ntmps29
              go_wp2_with ((go_at_call 35); (with_reducible refine (HN _).mono ?_); rintro e w1 ⟨rfl, rfl⟩)
              go_ret
              exact boolBelow_of (by rw [HC.out]; exact HL.out) (hbA _)
            | true =>
              rw [ho] at HN
              have HL := Lib.hid (show numWhole (vbl s) = leafB 3 (vbl s) by unfold leafB; simp [ho])
              clear ho
              go_enter Tryd.func29, Tryd.ntmps29
              go_wp2_with ((go_at_call 35); (with_reducible refine (HN _).mono ?_); rintro e w1 ⟨rfl, rfl⟩)
              go_ret
              exact boolBelow_of (by rw [HC.out]; exact HL.out) (hbA _)
          by_cases h4 : k = 4
          · subst h4
            cases ho : numOk (vbl s) with
            | false =>
              rw [ho] at HN
              have HL := Lib.hid (show false = leafB 4 (vbl s) by unfold leafB; simp [ho])
              clear ho
              go_enter Tryd.func29, Tryd.ntmps29
              go_wp2_with ((go_at_call 35); (with_reducible refine (HN _).mono ?_); rintro e w1 ⟨rfl, rfl⟩)
              go_ret
              exact boolBelow_of (by rw [HC.out]; exact HL.out) (hbA _)
            | true =>
              rw [ho] at HN
              have HL := Lib.hid (show (!numWhole (vbl s)) = leafB 4 (vbl s) by unfold leafB; simp [ho])
              clear ho
              go_enter Tryd.func29, Tryd.ntmps29
              go_wp2_with ((go_at_call 35); (with_reducible refine (HN _).mono ?_); rintro e w1 ⟨rfl, rfl⟩)
              go_ret
              exact boolBelow_of (by rw [HC.out]; exact HL.out) (hbA _)
          have f1 : (k == 1) = false := by simpa using h1
          have f2 : (k == 2) = false := by simpa using h2
          have f3 : (k == 3) = false := by simpa using h3
          have f4 : (k == 4) = false := by simpa using h4
          have f7 : (k == 7) = false := by simpa using h7
          have f8 : (k == 8) = false := by simpa using h8
          by_cases h5 : k = 5
          · subst h5
            have HV : ∀ W, Calls Tryd.prog 36 #[.string s] W fun e w' => e = .returned (.bool (Lib.validD (vbl s))) ∧ W = w' := fun W => refValid_any s W (by omega)
            go_enter Tryd.func29, Tryd.ntmps29
            go_wp2_with (first | ((go_at_call 35); (with_reducible refine (HN _).mono ?_); rintro e w1 ⟨rfl, rfl⟩) | ((go_at_call 36); (with_reducible refine (HV _).mono ?_); rintro e w2 ⟨rfl, rfl⟩))
            go_ret
            exact boolBelow_of (by rw [HC.out]; rfl) (hbA _)
          · have f5 : (k == 5) = false := by simpa using h5
            have HF := Lib.hid (show false = leafB k (vbl s) by rw [leaf_none (by omega)])
            clear h1 h2 h3 h4 h5 h7 h8 h9
            go_enter Tryd.func29, Tryd.ntmps29
            go_wp2_with ((go_at_call 35); (with_reducible refine (HN _).mono ?_); rintro e w1 ⟨rfl, rfl⟩)
            go_ret
            exact boolBelow_of (by rw [HC.out]; exact HF.out) (hbA _)
    · have e9 : decide (k < 7) = false := decide_eq_false h9
      have f1 : (k == 1) = false := by simp; omega
      have f2 : (k == 2) = false := by simp; omega
      have f3 : (k == 3) = false := by simp; omega
      have f4 : (k == 4) = false := by simp; omega
      have f5 : (k == 5) = false := by simp; omega
      have f7 : (k == 7) = false := by simpa using h7
      have f8 : (k == 8) = false := by simpa using h8
      have HF := Lib.hid (show false = chkAt (d + 1) (.mk k s ns ps) by
        unfold chkAt
        rw [self_leaf (x := .mk k s ns ps) h7 h8]
        show false = ((_ && leafB k (vbl s)) && _)
        rw [leaf_none (by omega)]
        simp)
      clear h7 h8 h9
      go_enter Tryd.func29, Tryd.ntmps29
      go_wp2_with ((go_at_call 35); (with_reducible refine (HN _).mono ?_); rintro e w1 ⟨rfl, rfl⟩)
      go_ret
      exact boolBelow_of HF.out (hbA _)

set_option maxHeartbeats 400000 in
theorem refCheck_any (B n : Nat) (x : JV) (v : Value) (w : World) (hB : B ≤ w.heap.size) (h : Rd w B n x v) :
    Calls Tryd.prog 18 #[v] w (BoolBelow (chkAt 12 x) w) := by
  have hc := fun W (hb : Below w.heap.size w W) => refcheck_any 12 (by omega) 12 rfl B n x v W (Nat.le_trans hB hb.size) (h.below (hb.mono hB))
  have hbA : ∀ o, Below w.heap.size w (w.alloc o) := fun o => (Below.refl _ w).alloc (Nat.le_refl _) o
  obtain ⟨an, cn, ap, cp, rfl⟩ := h.shape
  go_enter Tryd.func18, Tryd.ntmps18
  go_wp2_with ((go_at_call 29); (with_reducible refine (hc _ (hbA _)).mono ?_); rintro e w2 ⟨rfl, b2⟩)
  go_ret
  exact boolBelow_of rfl ((hbA _).trans (b2.mono (by simp)))

end Go.Proofs.YtbcenaljaoejkaaDoor

/-
  What the document's text and Text answer: the same as the program's.
-/
namespace Go.Proofs.YtbcenaljaoejkaaDoor
open Go.RowKit

def TxtRel (f : JV → List UInt8) (ob : Bool) (ns : List ByteArray) (ps : List JV) (T : List UInt8) (W1 : World) (t i : Value) (wr : World) : Prop :=
  ∃ (k : Nat) (S : ByteArray), k ≤ ps.length ∧ i = .int .i64 k ∧ t = .string S ∧ Below W1.heap.size W1 wr ∧ T = bl S ++ pts f ob (k == 0) (ns.drop k) (ps.drop k)
theorem of_bytes (S : ByteArray) (l : List UInt8) (h : bl S = l) : Ending.returned (.string S) = .returned (.string ⟨l.toArray⟩) := by
  rw [of_bl S l h]
theorem bl_of (l : List UInt8) : bl ⟨l.toArray⟩ = l := rfl
theorem size_of (l : List UInt8) : (⟨l.toArray⟩ : ByteArray).size = l.length := rfl


set_option maxHeartbeats 4000000 in
set_option maxRecDepth 100000 in
theorem reftext_7 (m : Nat) (ih : ∀ (B n : Nat) (x : JV) (v : Value) (w : World), B ≤ w.heap.size → Rd w B n x v → chkAt m x = true → (txt m x).length ≤ 100000000000 → Calls Tryd.prog 19 #[v] w (StrBelow w (txt m x)))
    (B n : Nat) (s : ByteArray) (ns : List ByteArray) (ps : List JV) (v : Value) (w : World) (hB : B ≤ w.heap.size) (h : Rd w B (n + 1) (.mk 7 s ns ps) v) (hall : ps.all (chkAt m) = true) (hlen : (txt (m + 1) (.mk 7 s ns ps)).length ≤ 100000000000) :
    Calls Tryd.prog 19 #[v] w (StrBelow w (txt (m + 1) (.mk 7 s ns ps))) := by
  obtain ⟨an, cn, ap, cp, rfl, ⟨z1, z2, z3, z4, z5⟩, hs, hr⟩ := h
  simp only [JV.k, JV.s, JV.ns, JV.ps] at *
  have HI := Lib.hid ih
  clear ih
  have HALL := Lib.hid hall
  
  have hbA : ∀ o, Below w.heap.size w (w.alloc o) := fun o => (Below.refl _ w).alloc (Nat.le_refl _) o
  obtain ⟨T, hT⟩ : ∃ T, pts (txt m) false true ns ps = T := ⟨_, rfl⟩
  have HX := Lib.hid (show txt (m + 1) (.mk 7 s ns ps) = [91] ++ (T ++ [93]) from by rw [txt_list (x := .mk 7 s ns ps) rfl, ← hT]; rfl)
  have hTl : T.length + 2 ≤ 100000000000 := by
    have := hlen
    rw [HX.out] at this
    simp at this
    omega
  have HT := Lib.hid hT
  clear hT hlen hall 
  go_enter Tryd.func19, Tryd.ntmps19
  go_wp2_with fail
  obtain ⟨W1, hW1⟩ : ∃ W1, W1 = w.alloc (.cells #[.int .i64 7, .string s, .slice an ns.length cn, .slice ap ps.length cp] 26) := ⟨_, rfl⟩
  rw [← hW1]
  have B1 : Below w.heap.size w W1 := by rw [hW1]; exact hbA _
  have s1 : W1.heap.size = w.heap.size + 1 := by rw [hW1]; simp
  have c1 : W1.cell? ⟨w.heap.size, 3, none⟩ = some (.slice ap ps.length cp) := by rw [hW1]; go_simp
  have c0 : W1.cell? ⟨w.heap.size, 2, none⟩ = some (.slice an ns.length cn) := by rw [hW1]; go_simp
  have c4 : W1.cell? ⟨w.heap.size, 0, none⟩ = some (.int .i64 7) := by rw [hW1]; go_simp
  clear hW1 hbA
  go_loopw [3, 4] (fun t i wr => TxtRel (txt m) false ns ps T W1 t i wr) (fun _ i _ => ps.length - (intOf i).toNat)
  case atStart => exact ⟨0, ⟨#[]⟩, Nat.zero_le _, rfl, rfl, Below.refl _ _, HT.out.symm⟩
  case round =>
    obtain ⟨q, S, hq, rfl, rfl, hbw, hTS⟩ := hrel
    have HTS := Lib.hid hTS
    clear hTS
    have cell : ∀ o, wr.cell? ⟨w.heap.size, o, none⟩ = W1.cell? ⟨w.heap.size, o, none⟩ := fun o => hbw.cell (p := ⟨w.heap.size, o, none⟩) (by show w.heap.size < _; omega)
    have c5 := (cell 3).trans c1
    have c6 := (cell 2).trans c0
    have c7 := (cell 0).trans c4
    clear cell
    have hws := hbw.size
    have BW := B1.trans (hbw.mono B1.size)
    by_cases hlt : q < ps.length
    · obtain ⟨b, off, y, an', cn', ap', cp', HY, rfl, hb, hRr, g0, g1, g2, g3⟩ := hr.elem hlt (BW.mono hB)
      have HST := Lib.hid (pts_step (txt m) false ns ps q hlt)
      rw [HY.out] at HST
      have hcy : chkAt m y = true := by rw [← HY.out]; exact List.all_eq_true.1 HALL.out _ (List.getElem_mem hlt)
      have HE := Lib.hid (show T = bl S ++ ((if q == 0 then [] else [44]) ++ ( (txt m y ++ pts (txt m) false false (ns.drop (q + 1)) (ps.drop (q + 1))))) from by rw [HTS.out, HST.out]; rfl)
      have hsz : S.size + (if q == 0 then 0 else 1) +  (txt m y).length ≤ 100000000000 := by
        have h1 := hTl
        rw [HE.out] at h1
        have h2 : S.size = (bl S).length := rfl
        have h3 : ((if (q == 0) = true then [] else [44]) : List UInt8).length = if q == 0 then 0 else 1 := by split <;> rfl
        simp only [List.length_append, h3] at h1
        omega
      have hih := fun W (hb : Below wr.heap.size wr W) => HI.out B n y _ W (Nat.le_trans (by omega) hb.size) (hRr.below (hb.mono (by omega))) hcy (by omega)
      clear hr HY c0 c1 c4 HST hcy hs
      generalize txt m y = ty at *
      by_cases hq0 : q = 0
      · subst hq0
        have hsz0 : S.size +  ty.length ≤ 100000000000 := by simpa using hsz
        have HE0 := Lib.hid (show T = bl S ++ ( (ty ++ pts (txt m) false false (ns.drop 1) (ps.drop 1))) from by rw [HE.out]; rfl)
        clear HE hsz
        simp only [Nat.zero_mul, Nat.add_zero] at g0 g1 g2 g3
        have zT : (⟨ty.toArray⟩ : ByteArray).size = ty.length := rfl
        have hB3 : S.size + (⟨ty.toArray⟩ : ByteArray).size ≤ 100000000000 := by omega
        clear zT
        
        go_wp2_with ((go_at_call 19); (with_reducible refine (hih _ (Below.refl _ _)).mono ?_); rintro e w3 ⟨rfl, b3⟩)
        go_roundw
        case rel => exact ⟨1, _, by omega, by go_num, rfl, hbw.trans (b3.mono hws), by rw [HE0.out]; simp [bl_app, bl_of]⟩
        case measure => simp [intOf]; omega
      · have f0 : decide ((0 : Int) < (q : Int)) = true := decide_eq_true (by omega)
        have fq : (q == 0) = false := by simpa using hq0
        have hsz0 : S.size + 1 +  ty.length ≤ 100000000000 := by rw [fq] at hsz; simpa using hsz
        have HE0 := Lib.hid (show T = bl S ++ ([44] ++ ( (ty ++ pts (txt m) false false (ns.drop (q + 1)) (ps.drop (q + 1))))) from by rw [HE.out, fq]; rfl)
        clear HE hsz fq
        have zc : (⟨#[44]⟩ : ByteArray).size = 1 := rfl
        have zS : (S ++ ⟨#[44]⟩).size = S.size + 1 := by rw [ByteArray.size_append, zc]
        have HZS := Lib.hid zS
        obtain ⟨S1, hS1⟩ : ∃ S1, S1 = S ++ ⟨#[44]⟩ := ⟨_, rfl⟩
        have hz1 : S1.size ≤ S.size + 1 := by rw [hS1, zS]; exact Nat.le_refl _
        have HS1 := Lib.hid hS1
        clear hS1 zS zc
        have zT : (⟨ty.toArray⟩ : ByteArray).size = ty.length := rfl
        have hB3 : S1.size + (⟨ty.toArray⟩ : ByteArray).size ≤ 100000000000 := by omega
        clear zT
        rw [HS1.out] at *
        go_wp2_with ((go_at_call 19); (with_reducible refine (hih _ (Below.refl _ _)).mono ?_); rintro e w3 ⟨rfl, b3⟩)
        go_roundw
        case rel => exact ⟨q + 1, _, by omega, by go_num, rfl, hbw.trans (b3.mono hws), by rw [HE0.out]; simp [bl_app, bl_of]⟩
        case measure => simp [intOf]; omega
    · have HF := Lib.hid (show T = bl S from by rw [HTS.out, List.drop_of_length_le (show ps.length ≤ q by omega)]; simp [pts])
      have hSz : S.size + 2 ≤ 100000000000 := by have h1 := hTl; rw [HF.out] at h1; exact h1
      have za : ((⟨#[91]⟩ : ByteArray) ++ S).size ≤ 100000000000 := by rw [ByteArray.size_append]; have : (⟨#[91]⟩ : ByteArray).size = 1 := rfl; omega
      go_wp2_with fail
      go_ret
      refine ⟨?_, BW⟩
      rw [HX.out, HF.out]
      exact of_bytes _ _ (by simp only [bl_app]; rfl)


set_option maxHeartbeats 4000000 in
set_option maxRecDepth 100000 in
theorem reftext_8 (m : Nat) (ih : ∀ (B n : Nat) (x : JV) (v : Value) (w : World), B ≤ w.heap.size → Rd w B n x v → chkAt m x = true → (txt m x).length ≤ 100000000000 → Calls Tryd.prog 19 #[v] w (StrBelow w (txt m x)))
    (B n : Nat) (s : ByteArray) (ns : List ByteArray) (ps : List JV) (v : Value) (w : World) (hB : B ≤ w.heap.size) (h : Rd w B (n + 1) (.mk 8 s ns ps) v) (hall : ps.all (chkAt m) = true) (hnl : ns.length = ps.length) (hlen : (txt (m + 1) (.mk 8 s ns ps)).length ≤ 100000000000) :
    Calls Tryd.prog 19 #[v] w (StrBelow w (txt (m + 1) (.mk 8 s ns ps))) := by
  obtain ⟨an, cn, ap, cp, rfl, ⟨z1, z2, z3, z4, z5⟩, hs, hr⟩ := h
  simp only [JV.k, JV.s, JV.ns, JV.ps] at *
  have HI := Lib.hid ih
  clear ih
  have HALL := Lib.hid hall
  have HNL := Lib.hid hnl
  have hbA : ∀ o, Below w.heap.size w (w.alloc o) := fun o => (Below.refl _ w).alloc (Nat.le_refl _) o
  obtain ⟨T, hT⟩ : ∃ T, pts (txt m) true true ns ps = T := ⟨_, rfl⟩
  have HX := Lib.hid (show txt (m + 1) (.mk 8 s ns ps) = [123] ++ (T ++ [125]) from by rw [txt_obj (x := .mk 8 s ns ps) rfl, ← hT]; rfl)
  have hTl : T.length + 2 ≤ 100000000000 := by
    have := hlen
    rw [HX.out] at this
    simp at this
    omega
  have HT := Lib.hid hT
  clear hT hlen hall hnl
  go_enter Tryd.func19, Tryd.ntmps19
  go_wp2_with fail
  obtain ⟨W1, hW1⟩ : ∃ W1, W1 = w.alloc (.cells #[.int .i64 8, .string s, .slice an ns.length cn, .slice ap ps.length cp] 26) := ⟨_, rfl⟩
  rw [← hW1]
  have B1 : Below w.heap.size w W1 := by rw [hW1]; exact hbA _
  have s1 : W1.heap.size = w.heap.size + 1 := by rw [hW1]; simp
  have c1 : W1.cell? ⟨w.heap.size, 3, none⟩ = some (.slice ap ps.length cp) := by rw [hW1]; go_simp
  have c0 : W1.cell? ⟨w.heap.size, 2, none⟩ = some (.slice an ns.length cn) := by rw [hW1]; go_simp
  have c4 : W1.cell? ⟨w.heap.size, 0, none⟩ = some (.int .i64 8) := by rw [hW1]; go_simp
  clear hW1 hbA
  go_loopw [3, 4] (fun t i wr => TxtRel (txt m) true ns ps T W1 t i wr) (fun _ i _ => ps.length - (intOf i).toNat)
  case atStart => exact ⟨0, ⟨#[]⟩, Nat.zero_le _, rfl, rfl, Below.refl _ _, HT.out.symm⟩
  case round =>
    obtain ⟨q, S, hq, rfl, rfl, hbw, hTS⟩ := hrel
    have HTS := Lib.hid hTS
    clear hTS
    have cell : ∀ o, wr.cell? ⟨w.heap.size, o, none⟩ = W1.cell? ⟨w.heap.size, o, none⟩ := fun o => hbw.cell (p := ⟨w.heap.size, o, none⟩) (by show w.heap.size < _; omega)
    have c5 := (cell 3).trans c1
    have c6 := (cell 2).trans c0
    have c7 := (cell 0).trans c4
    clear cell
    have hws := hbw.size
    have BW := B1.trans (hbw.mono B1.size)
    by_cases hlt : q < ps.length
    · obtain ⟨b, off, y, an', cn', ap', cp', HY, rfl, hb, hRr, g0, g1, g2, g3⟩ := hr.elem hlt (BW.mono hB)
      have HST := Lib.hid (pts_step (txt m) true ns ps q hlt)
      rw [HY.out] at HST
      have hcy : chkAt m y = true := by rw [← HY.out]; exact List.all_eq_true.1 HALL.out _ (List.getElem_mem hlt)
      obtain ⟨bn, offn, rfl, hbn, hnz, hcn⟩ := (hs.below (BW.mono hB)).at_ (show q < ns.length by have := HNL.out; omega)
      have HNM := Lib.hid (show (ns.drop q).headD ⟨#[]⟩ = ns[q]'(by have := HNL.out; omega) from head_drop ns q _)
      generalize ns[q]'(by have := HNL.out; omega) = nm at *
      have hqt := fun W => refQuote_any nm W (by omega)
      have HQB : Hid (quoteB nm.data.toList = quoteB (vbl nm)) := Lib.hid rfl
      rw [HQB.out] at hqt
      have hlq : q < ns.length := by have := HNL.out; omega
      obtain ⟨QQ, hQQ⟩ : ∃ QQ, quoteB (vbl nm) = QQ := ⟨_, rfl⟩
      rw [hQQ] at hqt
      have HQQ := Lib.hid hQQ
      clear hQQ HQB
      have HE := Lib.hid (show T = bl S ++ ((if q == 0 then [] else [44]) ++ ((QQ ++ [58]) ++ (txt m y ++ pts (txt m) true false (ns.drop (q + 1)) (ps.drop (q + 1))))) from by rw [HTS.out, HST.out, HNM.out, HQQ.out]; rfl)
      have hsz : S.size + (if q == 0 then 0 else 1) + (QQ.length + 1) + (txt m y).length ≤ 100000000000 := by
        have h1 := hTl
        rw [HE.out] at h1
        have h2 : S.size = (bl S).length := rfl
        have h3 : ((if (q == 0) = true then [] else [44]) : List UInt8).length = if q == 0 then 0 else 1 := by split <;> rfl
        simp only [List.length_append, h3] at h1
        omega
      have hih := fun W (hb : Below wr.heap.size wr W) => HI.out B n y _ W (Nat.le_trans (by omega) hb.size) (hRr.below (hb.mono (by omega))) hcy (by omega)
      clear hr HY c0 c1 c4 HST hcy hs
      generalize txt m y = ty at *
      by_cases hq0 : q = 0
      · subst hq0
        have hsz0 : S.size + (QQ.length + 1) + ty.length ≤ 100000000000 := by simpa using hsz
        have HE0 := Lib.hid (show T = bl S ++ ((QQ ++ [58]) ++ (ty ++ pts (txt m) true false (ns.drop 1) (ps.drop 1))) from by rw [HE.out]; rfl)
        clear HE hsz
        simp only [Nat.zero_mul, Nat.add_zero] at g0 g1 g2 g3 hcn
        have zq : (⟨QQ.toArray⟩ : ByteArray).size = QQ.length := rfl
        have zA : (S ++ ⟨QQ.toArray⟩).size = S.size + QQ.length := by rw [ByteArray.size_append, zq]
        have zB : (S ++ ⟨QQ.toArray⟩ ++ ⟨#[58]⟩).size = S.size + QQ.length + 1 := by rw [ByteArray.size_append, zA]; rfl
        have zT : (⟨ty.toArray⟩ : ByteArray).size = ty.length := rfl
        have hA : (S ++ ⟨QQ.toArray⟩).size ≤ 100000000000 := by omega
        have hA1 : (⟨QQ.toArray⟩ : ByteArray).size ≤ 100000000000 := by omega
        have hA2 : S.size + (⟨QQ.toArray⟩ : ByteArray).size ≤ 100000000000 := by omega
        have hB3 : (S ++ ⟨QQ.toArray⟩ ++ ⟨#[58]⟩).size + (⟨ty.toArray⟩ : ByteArray).size ≤ 100000000000 := by omega
        have hB4 : (S ++ ⟨QQ.toArray⟩ ++ ⟨#[58]⟩).size ≤ 100000000000 := by omega
        clear zq zA zB zT
        
        go_wp2_with (first | ((go_at_call 30); (with_reducible refine (hqt _).mono ?_); rintro e w2 ⟨rfl, b2⟩; have c8 := (b2.cell (p := ⟨w.heap.size, 3, none⟩) (by show w.heap.size < _; omega)).trans c5; have k0 := (b2.cell (p := ⟨b, off, none⟩) (by show b < _; omega)).trans g0; have k1 := (b2.cell (p := ⟨b, off + 1, none⟩) (by show b < _; omega)).trans g1; have k2 := (b2.cell (p := ⟨b, off + 2, none⟩) (by show b < _; omega)).trans g2; have k3 := (b2.cell (p := ⟨b, off + 3, none⟩) (by show b < _; omega)).trans g3; clear c5 g0 g1 g2 g3) | ((go_at_call 19); (with_reducible refine (hih _ b2).mono ?_); rintro e w3 ⟨rfl, b3⟩))
        go_roundw
        case rel => exact ⟨1, _, by omega, by go_num, rfl, (hbw.trans (b2.mono hws)).trans (b3.mono (Nat.le_trans hws b2.size)), by rw [HE0.out]; simp [bl_app, bl_of]⟩
        case measure => simp [intOf]; omega
      · have f0 : decide ((0 : Int) < (q : Int)) = true := decide_eq_true (by omega)
        have fq : (q == 0) = false := by simpa using hq0
        have hsz0 : S.size + 1 + (QQ.length + 1) + ty.length ≤ 100000000000 := by rw [fq] at hsz; simpa using hsz
        have HE0 := Lib.hid (show T = bl S ++ ([44] ++ ((QQ ++ [58]) ++ (ty ++ pts (txt m) true false (ns.drop (q + 1)) (ps.drop (q + 1))))) from by rw [HE.out, fq]; rfl)
        clear HE hsz fq
        have zc : (⟨#[44]⟩ : ByteArray).size = 1 := rfl
        have zS : (S ++ ⟨#[44]⟩).size = S.size + 1 := by rw [ByteArray.size_append, zc]
        have HZS := Lib.hid zS
        obtain ⟨S1, hS1⟩ : ∃ S1, S1 = S ++ ⟨#[44]⟩ := ⟨_, rfl⟩
        have hz1 : S1.size ≤ S.size + 1 := by rw [hS1, zS]; exact Nat.le_refl _
        have HS1 := Lib.hid hS1
        clear hS1 zS zc
        have zq : (⟨QQ.toArray⟩ : ByteArray).size = QQ.length := rfl
        have zA : (S1 ++ ⟨QQ.toArray⟩).size = S1.size + QQ.length := by rw [ByteArray.size_append, zq]
        have zB : (S1 ++ ⟨QQ.toArray⟩ ++ ⟨#[58]⟩).size = S1.size + QQ.length + 1 := by rw [ByteArray.size_append, zA]; rfl
        have zT : (⟨ty.toArray⟩ : ByteArray).size = ty.length := rfl
        have hA : (S1 ++ ⟨QQ.toArray⟩).size ≤ 100000000000 := by omega
        have hA1 : (⟨QQ.toArray⟩ : ByteArray).size ≤ 100000000000 := by omega
        have hA2 : S1.size + (⟨QQ.toArray⟩ : ByteArray).size ≤ 100000000000 := by omega
        have hB3 : (S1 ++ ⟨QQ.toArray⟩ ++ ⟨#[58]⟩).size + (⟨ty.toArray⟩ : ByteArray).size ≤ 100000000000 := by omega
        have hB4 : (S1 ++ ⟨QQ.toArray⟩ ++ ⟨#[58]⟩).size ≤ 100000000000 := by omega
        clear zq zA zB zT
        rw [HS1.out] at *
        go_wp2_with (first | ((go_at_call 30); (with_reducible refine (hqt _).mono ?_); rintro e w2 ⟨rfl, b2⟩; have c8 := (b2.cell (p := ⟨w.heap.size, 3, none⟩) (by show w.heap.size < _; omega)).trans c5; have k0 := (b2.cell (p := ⟨b, off + q * 4, none⟩) (by show b < _; omega)).trans g0; have k1 := (b2.cell (p := ⟨b, off + q * 4 + 1, none⟩) (by show b < _; omega)).trans g1; have k2 := (b2.cell (p := ⟨b, off + q * 4 + 2, none⟩) (by show b < _; omega)).trans g2; have k3 := (b2.cell (p := ⟨b, off + q * 4 + 3, none⟩) (by show b < _; omega)).trans g3; clear c5 g0 g1 g2 g3) | ((go_at_call 19); (with_reducible refine (hih _ b2).mono ?_); rintro e w3 ⟨rfl, b3⟩))
        go_roundw
        case rel => exact ⟨q + 1, _, by omega, by go_num, rfl, (hbw.trans (b2.mono hws)).trans (b3.mono (Nat.le_trans hws b2.size)), by rw [HE0.out]; simp [bl_app, bl_of]⟩
        case measure => simp [intOf]; omega
    · have HF := Lib.hid (show T = bl S from by rw [HTS.out, List.drop_of_length_le (show ps.length ≤ q by omega)]; simp [pts])
      have hSz : S.size + 2 ≤ 100000000000 := by have h1 := hTl; rw [HF.out] at h1; exact h1
      have za : ((⟨#[123]⟩ : ByteArray) ++ S).size ≤ 100000000000 := by rw [ByteArray.size_append]; have : (⟨#[123]⟩ : ByteArray).size = 1 := rfl; omega
      go_wp2_with fail
      go_ret
      refine ⟨?_, BW⟩
      rw [HX.out, HF.out]
      exact of_bytes _ _ (by simp only [bl_app]; rfl)


set_option maxHeartbeats 4000000 in
set_option maxRecDepth 100000 in
theorem reftext_any : ∀ (m B n : Nat) (x : JV) (v : Value) (w : World), B ≤ w.heap.size → Rd w B n x v → chkAt m x = true → (txt m x).length ≤ 100000000000 → Calls Tryd.prog 19 #[v] w (StrBelow w (txt m x)) := by
  intro m
  induction m with
  | zero => intro B n x v w _ _ h; cases h
  | succ m ih =>
    intro B n x v w hB h hc hlen
    match n, h with
    | n + 1, h =>
    obtain ⟨k, s, ns, ps⟩ := x
    have hc0 := hc
    unfold chkAt at hc
    rw [Bool.and_eq_true] at hc
    by_cases h7 : k = 7
    · subst h7
      exact reftext_7 m ih B n s ns ps v w hB h hc.2 hlen
    by_cases h8 : k = 8
    · subst h8
      have h1 := hc.1
      rw [self_obj (x := .mk 8 s ns ps) rfl] at h1
      simp only [Bool.and_eq_true, decide_eq_true_eq] at h1
      exact reftext_8 m ih B n s ns ps v w hB h hc.2 h1.1.2 hlen
    obtain ⟨an, cn, ap, cp, rfl, ⟨z1, z2, z3, z4, z5⟩, hs, hr⟩ := h
    simp only [JV.k, JV.s, JV.ns, JV.ps] at *
    have hbA : ∀ o, Below w.heap.size w (w.alloc o) := fun o => (Below.refl _ w).alloc (Nat.le_refl _) o
    clear hc hc0 ih hs hr hlen
    by_cases h1 : k = 1
    · subst h1
      have HX := Lib.hid (txt_null (m := m) (x := .mk 1 s ns ps) rfl)
      go_enter Tryd.func19, Tryd.ntmps19
      go_wp2_with fail
      go_ret
      refine ⟨?_, hbA _⟩
      rw [HX.out]
      rfl
    by_cases h5 : k = 5
    · subst h5
      have HX := Lib.hid (txt_str (m := m) (x := .mk 5 s ns ps) rfl)
      have hq := fun W => refQuote_any s W (by omega)
      go_enter Tryd.func19, Tryd.ntmps19
      go_wp2_with ((go_at_call 30); (with_reducible refine (hq _).mono ?_); rintro e w2 ⟨rfl, b2⟩)
      go_ret
      refine ⟨?_, (hbA _).trans (b2.mono (by simp))⟩
      rw [HX.out]
      rfl
    have HX := Lib.hid (txt_leaf (m := m) (x := .mk k s ns ps) h1 h5 h7 h8)
    have f1 : (k == 1) = false := by simpa using h1
    have f5 : (k == 5) = false := by simpa using h5
    have f7 : (k == 7) = false := by simpa using h7
    have f8 : (k == 8) = false := by simpa using h8
    clear h1 h5 h7 h8
    go_enter Tryd.func19, Tryd.ntmps19
    go_wp2_with fail
    go_ret
    refine ⟨?_, hbA _⟩
    rw [HX.out]
    exact of_bytes _ _ rfl

theorem strIs_of {w w' : World} {l l' : List UInt8} (h : l = l') (hb : Below w.heap.size w w') : StrBelow w l' (.returned (.string ⟨l.toArray⟩)) w' := by subst h; exact ⟨rfl, hb⟩

set_option maxHeartbeats 400000 in
theorem refText_any (B n : Nat) (x : JV) (v : Value) (w : World) (hB : B ≤ w.heap.size) (h : Rd w B n x v) (hlen : (txt 12 x).length ≤ 100000000000) :
    Calls Tryd.prog 12 #[v] w (StrBelow w (textB x)) := by
  have hc := fun W (hb : Below w.heap.size w W) => refCheck_any B n x v W (Nat.le_trans hB hb.size) (h.below (hb.mono hB))
  have hbA : ∀ o, Below w.heap.size w (w.alloc o) := fun o => (Below.refl _ w).alloc (Nat.le_refl _) o
  have HR := Lib.hid h
  obtain ⟨an, cn, ap, cp, rfl⟩ := h.shape
  cases hk : chkAt 12 x with
  | false =>
    rw [hk] at hc
    have HT := Lib.hid (show [] = textB x by unfold textB; rw [hk]; rfl)
    clear hk
    go_enter Tryd.func12, Tryd.ntmps12
    go_wp2_with ((go_at_call 18); (with_reducible refine (hc _ (hbA _)).mono ?_); rintro e w2 ⟨rfl, b2⟩)
    go_ret
    exact strIs_of HT.out ((hbA _).trans (b2.mono (by simp)))
  | true =>
    rw [hk] at hc
    have HT := Lib.hid (show txt 12 x = textB x by unfold textB; rw [hk]; rfl)
    have ht := fun W (hb : Below w.heap.size w W) => reftext_any 12 B n x _ W (Nat.le_trans hB hb.size) (HR.out.below (hb.mono hB)) hk hlen
    clear hk
    generalize txt 12 x = t at *
    go_enter Tryd.func12, Tryd.ntmps12
    go_wp2_with (first | ((go_at_call 18); (with_reducible refine (hc _ (hbA _)).mono ?_); rintro e w2 ⟨rfl, b2⟩; have bb := (hbA (.cells #[.int .i64 x.k, .string x.s, .slice an x.ns.length cn, .slice ap x.ps.length cp] 26)).trans (b2.mono (by simp)); have y0 := b2.cell (p := ⟨w.heap.size, 0, none⟩) (by simp); have y1 := b2.cell (p := ⟨w.heap.size, 1, none⟩) (by simp); have y2 := b2.cell (p := ⟨w.heap.size, 2, none⟩) (by simp); have y3 := b2.cell (p := ⟨w.heap.size, 3, none⟩) (by simp)) | ((go_at_call 19); (with_reducible refine (ht _ bb).mono ?_); rintro e w3 ⟨rfl, b3⟩))
    go_ret
    exact strIs_of HT.out (bb.trans (b3.mono bb.size))

end Go.Proofs.YtbcenaljaoejkaaDoor
