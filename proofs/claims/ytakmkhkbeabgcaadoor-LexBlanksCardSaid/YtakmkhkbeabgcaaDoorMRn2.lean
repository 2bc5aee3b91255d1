/-
  JvalAll, bounded: what the document's digits answers.
-/
import Derived.Test.YtakmkhkbeabgcaaDoorNum
import Derived.Test.YtakmkhkbeabgcaaDoorRef3
import Derived.Deep.DeepCutAuto
namespace Go.Proofs.YtakmkhkbeabgcaaDoor
open Go.RowKit

def ndL (l : List UInt8) : Nat := (l.takeWhile digU).length
theorem ndL_cons (a : UInt8) (t : List UInt8) : ndL (a :: t) = if digU a = true then ndL t + 1 else 0 := by
  unfold ndL
  rw [List.takeWhile_cons]
  cases digU a <;> simp

set_option maxHeartbeats 1000000 in
theorem refdig_any (s : ByteArray) (i : Nat) (w : World) (hs : s.size ≤ 1000000000) (hi : i ≤ s.size) :
    Calls Tryd.prog 46 #[.string s, .int .i64 i] w fun e w' => e = .returned (.int .i64 (ndL (s.data.toList.drop i))) ∧ w = w' := by
  have hlen : s.data.toList.length = s.size := rfl
  go_enter Tryd.func46, Tryd.ntmps46
  go_wp2_with fail
  go_loop [5] (fun v => ∃ n : Nat, i + n ≤ s.size ∧ v = .int .i64 n ∧ Hid (ndL (s.data.toList.drop i) = n + ndL (s.data.toList.drop (i + n)))) (fun v => s.size - (i + (intOf v).toNat))
  case atStart => exact ⟨0, by omega, rfl, Lib.hid (by simp)⟩
  case round =>
    obtain ⟨n, hn, rfl, HV⟩ := hrel
    by_cases hlt : i + n < s.size
    · have hc : s.data.toList.drop (i + n) = s.data.toList[i + n] :: s.data.toList.drop (i + n + 1) := List.drop_eq_getElem_cons (by omega)
      have d1 : decide ((i : Int) + n < s.size) = true := by simp; omega
      have hg : s.data.toList[i + n] = s[i + n] := rfl
      have hdg : ∀ W, Calls Tryd.prog 27 #[.int .u8 (s[i + n].toNat : Int)] W fun e w' => e = .returned (.bool (digU s[i + n])) ∧ W = w' := fun W => refDigit_any _ W
      rw [hg] at hc
      have HC := Lib.hid hc
      clear hc hg
      cases hd : digU s[i + n] with
      | true =>
        rw [hd] at hdg
        have HD := Lib.hid hd
        clear hd
        go_wp2_with ((go_at_call 27); (with_reducible refine (hdg _).mono ?_); rintro e w' ⟨rfl, rfl⟩)
        go_round
        case rel => exact ⟨n + 1, by omega, by go_num, Lib.hid (by rw [HV.out, HC.out, ndL_cons, if_pos HD.out, Nat.add_assoc i n 1]; omega)⟩
        case measure => simp [intOf]; omega
      | false =>
        rw [hd] at hdg
        have HD := Lib.hid hd
        clear hd
        go_wp2_with ((go_at_call 27); (with_reducible refine (hdg _).mono ?_); rintro e w' ⟨rfl, rfl⟩)
        go_ret
        exact ⟨by rw [HV.out, HC.out, ndL_cons, if_neg (by rw [HD.out]; decide)]; simp, rfl⟩
    · have d1 : decide ((i : Int) + n < s.size) = false := by simp; omega
      go_wp2_with fail
      go_ret
      exact ⟨by rw [HV.out, List.drop_eq_nil_of_le (by omega)]; simp [ndL], rfl⟩

end Go.Proofs.YtakmkhkbeabgcaaDoor

/-
  What the document's Number answers: the same as the program's.
-/
namespace Go.Proofs.YtakmkhkbeabgcaaDoor
open Go.RowKit

def hdN (l : List UInt8) : UInt8 := l.headD 0
def rn5 (wh : Bool) (l : List UInt8) : Bool × Bool := if l.length = 0 then (wh, true) else (false, false)
def rn4 (l : List UInt8) : Bool × Bool := if ndL l = 0 then (false, false) else rn5 false (l.drop (ndL l))
def rn3 (wh : Bool) (l : List UInt8) : Bool × Bool := if hdN l = 101 ∨ hdN l = 69 then rn4 (if hdN (l.drop 1) = 43 ∨ hdN (l.drop 1) = 45 then (l.drop 1).drop 1 else l.drop 1) else rn5 wh l
def rn2 (l : List UInt8) : Bool × Bool := if hdN l = 46 then (if ndL (l.drop 1) = 0 then (false, false) else rn3 false ((l.drop 1).drop (ndL (l.drop 1)))) else rn3 true l
def rn1 (l : List UInt8) : Bool × Bool := if ndL l = 0 ∨ (1 < ndL l ∧ hdN l = 48) then (false, false) else rn2 (l.drop (ndL l))
def rn0 (l : List UInt8) : Bool × Bool := if 40 < l.length then (false, false) else rn1 (if hdN l = 45 then l.drop 1 else l)

theorem ndL_le (l : List UInt8) : ndL l ≤ l.length := (List.takeWhile_sublist _).length_le
theorem hdN_at (s : ByteArray) (i : Nat) (h : i < s.size) : hdN (s.data.toList.drop i) = s[i] := by
  have : s.data.toList.drop i = s.data.toList[i] :: s.data.toList.drop (i + 1) := List.drop_eq_getElem_cons h
  rw [this]; rfl
theorem hdN_end (s : ByteArray) (i : Nat) (h : ¬ i < s.size) : hdN (s.data.toList.drop i) = 0 := by
  rw [List.drop_eq_nil_of_le (show s.data.toList.length ≤ i from Nat.le_of_not_lt h)]; rfl
theorem len_dropN (s : ByteArray) (i : Nat) : (s.data.toList.drop i).length = s.size - i := by rw [List.length_drop]; rfl
/-- A byte's test in the program, and in plain words. -/
theorem hd_is (s : ByteArray) (i : Nat) (h : i < s.size) (c : UInt8) (z : Int) (hz : (c.toNat : Int) = z) : (((s[i]).toNat : Int) == z) = decide (hdN (s.data.toList.drop i) = c) := by
  rw [hdN_at s i h, Bool.eq_iff_iff, beq_iff_eq, decide_eq_true_eq, ← UInt8.toNat_inj, ← hz]
  omega
theorem hd_not (s : ByteArray) (i : Nat) (h : ¬ i < s.size) (c : UInt8) (hc : c ≠ 0) : decide (hdN (s.data.toList.drop i) = c) = false := by
  rw [hdN_end s i h]
  exact decide_eq_false fun e => hc e.symm

def NAt (s : ByteArray) (F : List UInt8 → Bool × Bool) (i : Nat) : Prop := i ≤ s.size ∧ rn0 s.data.toList = F (s.data.toList.drop i)
def NumRn (s : ByteArray) (w : World) (e : Ending) (w' : World) : Prop := e = .returned (.tuple #[.bool (rn0 s.data.toList).1, .bool (rn0 s.data.toList).2]) ∧ w = w'
theorem numRn_of {s : ByteArray} {a b : Bool} (w : World) (h : rn0 s.data.toList = (a, b)) : NumRn s w (.returned (.tuple #[.bool a, .bool b])) w := by
  unfold NumRn; rw [h]; exact ⟨rfl, rfl⟩

set_option maxHeartbeats 4000000 in
set_option maxRecDepth 100000 in
theorem refnum_fit (s : ByteArray) (w : World) (hs : s.size ≤ 40) :
    Calls Tryd.prog 29 #[.string s] w (NumRn s w) := by
  have d40 : decide ((40 : Int) < s.size) = false := decide_eq_false (by omega)
  have HL := Lib.hid (show ¬ 40 < s.data.toList.length from by rw [← Lib.size_eq]; omega)
  go_enter Tryd.func29, Tryd.ntmps29
  go_upto_region 4 with fail
  clear d40
  go_cut [19] (fun b wc => b = .bool (decide (hdN (s.data.toList.drop 0) = 45)) ∧ w = wc)
  case first =>
    by_cases h0 : 0 < s.size
    · have d0 : decide ((0 : Int) < s.size) = true := decide_eq_true (by omega)
      have HE := Lib.hid (hd_is s 0 h0 45 45 rfl)
      go_wp2_with fail
      go_meet
      case rel => exact ⟨congrArg Value.bool HE.out, rfl⟩
    · have d0 : decide ((0 : Int) < s.size) = false := decide_eq_false (by omega)
      have HE := Lib.hid (hd_not s 0 h0 45 (by decide))
      go_wp2_with fail
      go_meet
      case rel => exact ⟨congrArg Value.bool HE.out.symm, rfl⟩
  case rest =>
    obtain ⟨rfl, rfl⟩ := hcut
    go_upto_if 19 with fail
    go_cut [4] (fun b wc => (∃ i : Nat, b = .int .i64 i ∧ NAt s rn1 i) ∧ w = wc)
    case first =>
      cases hh : decide (hdN (s.data.toList.drop 0) = 45) with
      | true =>
        have HH := Lib.hid (of_decide_eq_true hh)
        clear hh
        go_wp2_with fail
        go_meet
        case rel =>
          refine ⟨⟨1, rfl, ?_, ?_⟩, rfl⟩
          · have := HH.out
            by_cases h0 : 0 < s.size
            · omega
            · rw [hdN_end s 0 h0] at this; cases this
          · unfold rn0
            have := HH.out
            rw [List.drop_zero] at this
            rw [if_neg HL.out, if_pos this]
      | false =>
        have HH := Lib.hid (of_decide_eq_false hh)
        clear hh
        go_wp2_with fail
        go_meet
        case rel =>
          refine ⟨⟨0, rfl, Nat.zero_le _, ?_⟩, rfl⟩
          unfold rn0
          have := HH.out
          rw [List.drop_zero] at this
          rw [if_neg HL.out, if_neg this, List.drop_zero]
    case rest =>
      obtain ⟨⟨i, rfl, hi, hN⟩, rfl⟩ := hcut
      have HN := Lib.hid hN
      clear hN HL
      have HD := Lib.hid (refdig_any s i w (by omega) hi)
      obtain ⟨n, hn⟩ : ∃ n, ndL (s.data.toList.drop i) = n := ⟨_, rfl⟩
      have hle : n ≤ s.size - i := by rw [← hn, ← len_dropN]; exact ndL_le _
      rw [hn] at HD
      have HNN := Lib.hid hn
      clear hn
      go_upto_region 7 with ((go_at_call 46); (with_reducible refine HD.out.mono ?_); rintro e w1 ⟨rfl, rfl⟩)
      go_cut [36] (fun b wc => b = .bool (decide (n = 0 ∨ (1 < n ∧ hdN (s.data.toList.drop i) = 48))) ∧ w = wc)
      case first =>
        by_cases n0 : n = 0
        · have e0 : ((n : Int) == 0) = true := by simp; omega
          have HR := Lib.hid (show decide (n = 0 ∨ (1 < n ∧ hdN (s.data.toList.drop i) = 48)) = true from decide_eq_true (.inl n0))
          clear n0
          go_wp2_with fail
          go_meet
          case rel => exact ⟨congrArg Value.bool HR.out.symm, rfl⟩
        · have e0 : ((n : Int) == 0) = false := by simp; omega
          by_cases n1 : 1 < n
          · have e1 : decide ((1 : Int) < n) = true := decide_eq_true (by omega)
            have hlt : i < s.size := by omega
            have HE := Lib.hid (hd_is s i hlt 48 48 rfl)
            have HR := Lib.hid (show decide (n = 0 ∨ (1 < n ∧ hdN (s.data.toList.drop i) = 48)) = decide (hdN (s.data.toList.drop i) = 48) from by rw [Bool.eq_iff_iff, decide_eq_true_eq, decide_eq_true_eq]; exact ⟨fun h => (h.resolve_left n0).2, fun h => .inr ⟨n1, h⟩⟩)
            clear n0
            go_wp2_with fail
            go_meet
            case rel => exact ⟨congrArg Value.bool (HE.out.trans HR.out.symm), rfl⟩
          · have e1 : decide ((1 : Int) < n) = false := decide_eq_false (by omega)
            have HR := Lib.hid (show decide (n = 0 ∨ (1 < n ∧ hdN (s.data.toList.drop i) = 48)) = false from decide_eq_false (by rintro (h | h) <;> omega))
            clear n0
            go_wp2_with fail
            go_meet
            case rel => exact ⟨congrArg Value.bool HR.out.symm, rfl⟩
      case rest =>
        obtain ⟨rfl, rfl⟩ := hcut
        cases hh : decide (n = 0 ∨ (1 < n ∧ hdN (s.data.toList.drop i) = 48)) with
        | true =>
          have HF := Lib.hid (show rn0 s.data.toList = (false, false) by
            rw [HN.out]; unfold rn1; rw [HNN.out, if_pos (of_decide_eq_true hh)])
          clear hh
          go_wp2_with fail
          go_ret2
          exact numRn_of w HF.out
        | false =>
          have HN2 := Lib.hid (show NAt s rn2 (i + n) from ⟨by omega, by
            rw [HN.out]; unfold rn1; rw [HNN.out, if_neg (of_decide_eq_false hh), List.drop_drop]⟩)
          clear hh HN HNN HD
          obtain ⟨j, hj⟩ : ∃ j, i + n = j := ⟨_, rfl⟩
          rw [hj] at HN2
          have HJ : Hid ((i : Int) + n = j) := Lib.hid (by omega)
          have hjs : j ≤ s.size := by omega
          go_upto_region 10 with fail
          rw [HJ.out]
          clear HJ hj hle hi
          go_cut [49] (fun b wc => b = .bool (decide (hdN (s.data.toList.drop j) = 46)) ∧ w = wc)
          case first =>
            by_cases h0 : j < s.size
            · have d0 : decide ((j : Int) < s.size) = true := decide_eq_true (by omega)
              have HE := Lib.hid (hd_is s j h0 46 46 rfl)
              go_wp2_with fail
              go_meet
              case rel => exact ⟨congrArg Value.bool HE.out, rfl⟩
            · have d0 : decide ((j : Int) < s.size) = false := decide_eq_false (by omega)
              have HE := Lib.hid (hd_not s j h0 46 (by decide))
              go_wp2_with fail
              go_meet
              case rel => exact ⟨congrArg Value.bool HE.out.symm, rfl⟩
          case rest =>
            obtain ⟨rfl, rfl⟩ := hcut
            go_upto_if 49 with fail
            go_cut [4, 5, 6] (fun b c _ wc => (∃ (i : Nat) (wh : Bool), b = .int .i64 i ∧ c = .bool wh ∧ NAt s (rn3 wh) i) ∧ w = wc)
            case first =>
              cases hh : decide (hdN (s.data.toList.drop j) = 46) with
              | true =>
                have HH := Lib.hid (of_decide_eq_true hh)
                have hlt : j < s.size := by
                  by_cases h0 : j < s.size
                  · exact h0
                  · rw [hd_not s j h0 46 (by decide)] at hh; cases hh
                clear hh
                have HD := Lib.hid (refdig_any s (j + 1) w (by omega) (by omega))
                obtain ⟨m, hm⟩ : ∃ m, ndL (s.data.toList.drop (j + 1)) = m := ⟨_, rfl⟩
                have hml : m ≤ s.size - (j + 1) := by rw [← hm, ← len_dropN]; exact ndL_le _
                rw [hm] at HD
                have HM := Lib.hid hm
                clear hm
                have hcast : ((j + 1 : Nat) : Int) = (j : Int) + 1 := by omega
                rw [hcast] at HD
                clear hcast
                by_cases m0 : m = 0
                · have e0 : ((m : Int) == 0) = true := by simp; omega
                  have HF := Lib.hid (show rn0 s.data.toList = (false, false) by
                    rw [HN2.out.2]; unfold rn2; rw [if_pos HH.out, List.drop_drop, HM.out, if_pos m0])
                  clear m0
                  go_wp2_with ((go_at_call 46); (with_reducible refine HD.out.mono ?_); rintro e w1 ⟨rfl, rfl⟩)
                  go_ret2
                  exact numRn_of w HF.out
                · have e0 : ((m : Int) == 0) = false := by simp; omega
                  have HF := Lib.hid (show NAt s (rn3 false) (j + 1 + m) from ⟨by omega, by
                    rw [HN2.out.2]; unfold rn2; rw [if_pos HH.out, List.drop_drop, HM.out, if_neg m0, List.drop_drop]⟩)
                  clear m0
                  go_wp2_with ((go_at_call 46); (with_reducible refine HD.out.mono ?_); rintro e w1 ⟨rfl, rfl⟩)
                  go_meet
                  case rel => exact ⟨⟨j + 1 + m, false, by go_num, rfl, HF.out⟩, rfl⟩
              | false =>
                have HH := Lib.hid (of_decide_eq_false hh)
                clear hh
                go_wp2_with fail
                go_meet
                case rel => exact ⟨⟨j, true, rfl, rfl, HN2.out.1, by rw [HN2.out.2]; unfold rn2; rw [if_neg HH.out]⟩, rfl⟩
            case rest =>
              obtain ⟨⟨i, wh, rfl, rfl, hi, hN⟩, rfl⟩ := hcut
              have HN3 := Lib.hid hN
              clear hN HN2
              go_upto_region 15 with fail
              go_cut [75] (fun b wc => b = .bool (decide (hdN (s.data.toList.drop i) = 101 ∨ hdN (s.data.toList.drop i) = 69)) ∧ w = wc)
              case first =>
                by_cases h0 : i < s.size
                · have d0 : decide ((i : Int) < s.size) = true := decide_eq_true (by omega)
                  have HE := Lib.hid (hd_is s i h0 101 101 rfl)
                  have HE2 := Lib.hid (hd_is s i h0 69 69 rfl)
                  cases hb : (((s[i]).toNat : Int) == 101) with
                  | true =>
                    have HR := Lib.hid (show decide (hdN (s.data.toList.drop i) = 101 ∨ hdN (s.data.toList.drop i) = 69) = true from decide_eq_true (.inl (by have := HE.out; rw [hb] at this; exact of_decide_eq_true this.symm)))
                    go_wp2_with fail
                    go_meet
                    case rel => exact ⟨congrArg Value.bool HR.out.symm, rfl⟩
                  | false =>
                    have HR := Lib.hid (show decide (hdN (s.data.toList.drop i) = 101 ∨ hdN (s.data.toList.drop i) = 69) = decide (hdN (s.data.toList.drop i) = 69) from by
                      have h1 := HE.out; rw [hb] at h1
                      have h2 := of_decide_eq_false h1.symm
                      rw [Bool.eq_iff_iff, decide_eq_true_eq, decide_eq_true_eq]; exact ⟨fun h => h.resolve_left h2, .inr⟩)
                    go_wp2_with fail
                    go_meet
                    case rel => exact ⟨congrArg Value.bool (HE2.out.trans HR.out.symm), rfl⟩
                · have d0 : decide ((i : Int) < s.size) = false := decide_eq_false (by omega)
                  have HR := Lib.hid (show decide (hdN (s.data.toList.drop i) = 101 ∨ hdN (s.data.toList.drop i) = 69) = false from decide_eq_false (by rw [hdN_end s i h0]; decide))
                  go_wp2_with fail
                  go_meet
                  case rel => exact ⟨congrArg Value.bool HR.out.symm, rfl⟩
              case rest =>
                obtain ⟨rfl, rfl⟩ := hcut
                go_upto_if 75 with fail
                go_cut [4, 5, 6] (fun b c _ wc => (∃ (i : Nat) (wh : Bool), b = .int .i64 i ∧ c = .bool wh ∧ NAt s (rn5 wh) i) ∧ w = wc)
                case first =>
                  cases hh : decide (hdN (s.data.toList.drop i) = 101 ∨ hdN (s.data.toList.drop i) = 69) with
                  | true =>
                    have HH := Lib.hid (of_decide_eq_true hh)
                    have hlt : i < s.size := by
                      by_cases h0 : i < s.size
                      · exact h0
                      · have := of_decide_eq_true hh
                        rw [hdN_end s i h0] at this; exact absurd this (by decide)
                    clear hh
                    obtain ⟨j, hj⟩ : ∃ j, i + 1 = j := ⟨_, rfl⟩
                    have HJ : Hid ((i : Int) + 1 = j) := Lib.hid (by omega)
                    have hjs : j ≤ s.size := by omega
                    have HN4 := Lib.hid (show rn0 s.data.toList = rn4 (if hdN (s.data.toList.drop j) = 43 ∨ hdN (s.data.toList.drop j) = 45 then (s.data.toList.drop j).drop 1 else s.data.toList.drop j) by
                      rw [HN3.out]; unfold rn3; rw [if_pos HH.out, List.drop_drop, hj])
                    go_upto_region 17 with fail
                    rw [HJ.out]
                    clear HJ hj hi hlt HH HN3
                    go_cut [93] (fun b wc => b = .bool (decide (hdN (s.data.toList.drop j) = 43 ∨ hdN (s.data.toList.drop j) = 45)) ∧ w = wc)
                    case first =>
                      by_cases h0 : j < s.size
                      · have d0 : decide ((j : Int) < s.size) = true := decide_eq_true (by omega)
                        have HE := Lib.hid (hd_is s j h0 43 43 rfl)
                        have HE2 := Lib.hid (hd_is s j h0 45 45 rfl)
                        cases hb : (((s[j]).toNat : Int) == 43) with
                        | true =>
                          have HR := Lib.hid (show decide (hdN (s.data.toList.drop j) = 43 ∨ hdN (s.data.toList.drop j) = 45) = true from decide_eq_true (.inl (by have := HE.out; rw [hb] at this; exact of_decide_eq_true this.symm)))
                          go_wp2_with fail
                          go_meet
                          case rel => exact ⟨congrArg Value.bool HR.out.symm, rfl⟩
                        | false =>
                          have HR := Lib.hid (show decide (hdN (s.data.toList.drop j) = 43 ∨ hdN (s.data.toList.drop j) = 45) = decide (hdN (s.data.toList.drop j) = 45) from by
                            have h1 := HE.out; rw [hb] at h1
                            have h2 := of_decide_eq_false h1.symm
                            rw [Bool.eq_iff_iff, decide_eq_true_eq, decide_eq_true_eq]; exact ⟨fun h => h.resolve_left h2, .inr⟩)
                          go_wp2_with fail
                          go_meet
                          case rel => exact ⟨congrArg Value.bool (HE2.out.trans HR.out.symm), rfl⟩
                      · have d0 : decide ((j : Int) < s.size) = false := decide_eq_false (by omega)
                        have HR := Lib.hid (show decide (hdN (s.data.toList.drop j) = 43 ∨ hdN (s.data.toList.drop j) = 45) = false from decide_eq_false (by rw [hdN_end s j h0]; decide))
                        go_wp2_with fail
                        go_meet
                        case rel => exact ⟨congrArg Value.bool HR.out.symm, rfl⟩
                    case rest =>
                      obtain ⟨rfl, rfl⟩ := hcut
                      go_upto_if 93 with fail
                      go_cut [4] (fun b wc => (∃ i : Nat, b = .int .i64 i ∧ NAt s rn4 i) ∧ w = wc)
                      case first =>
                        cases hh : decide (hdN (s.data.toList.drop j) = 43 ∨ hdN (s.data.toList.drop j) = 45) with
                        | true =>
                          have HH := Lib.hid (of_decide_eq_true hh)
                          have hlt : j < s.size := by
                            by_cases h0 : j < s.size
                            · exact h0
                            · have := of_decide_eq_true hh
                              rw [hdN_end s j h0] at this; exact absurd this (by decide)
                          clear hh
                          go_wp2_with fail
                          go_meet
                          case rel => exact ⟨⟨j + 1, by go_num, by omega, by rw [HN4.out, if_pos HH.out, List.drop_drop]⟩, rfl⟩
                        | false =>
                          have HH := Lib.hid (of_decide_eq_false hh)
                          clear hh
                          go_wp2_with fail
                          go_meet
                          case rel => exact ⟨⟨j, rfl, hjs, by rw [HN4.out, if_neg HH.out]⟩, rfl⟩
                      case rest =>
                        obtain ⟨⟨i, rfl, hi, hN⟩, rfl⟩ := hcut
                        have HN := Lib.hid hN
                        clear hN HN4
                        have HD := Lib.hid (refdig_any s i w (by omega) hi)
                        obtain ⟨m, hm⟩ : ∃ m, ndL (s.data.toList.drop i) = m := ⟨_, rfl⟩
                        have hml : m ≤ s.size - i := by rw [← hm, ← len_dropN]; exact ndL_le _
                        rw [hm] at HD
                        have HM := Lib.hid hm
                        clear hm
                        by_cases m0 : m = 0
                        · have e0 : ((m : Int) == 0) = true := by simp; omega
                          have HF := Lib.hid (show rn0 s.data.toList = (false, false) by
                            rw [HN.out]; unfold rn4; rw [HM.out, if_pos m0])
                          clear m0
                          go_wp2_with ((go_at_call 46); (with_reducible refine HD.out.mono ?_); rintro e w1 ⟨rfl, rfl⟩)
                          go_ret2
                          exact numRn_of w HF.out
                        · have e0 : ((m : Int) == 0) = false := by simp; omega
                          have HF := Lib.hid (show NAt s (rn5 false) (i + m) from ⟨by omega, by
                            rw [HN.out]; unfold rn4; rw [HM.out, if_neg m0, List.drop_drop]⟩)
                          clear m0
                          go_wp2_with ((go_at_call 46); (with_reducible refine HD.out.mono ?_); rintro e w1 ⟨rfl, rfl⟩)
                          go_meet
                          case rel => exact ⟨⟨i + m, false, by go_num, rfl, HF.out⟩, rfl⟩
                  | false =>
                    have HH := Lib.hid (of_decide_eq_false hh)
                    clear hh
                    go_wp2_with fail
                    go_meet
                    case rel => exact ⟨⟨i, wh, rfl, rfl, hi, by rw [HN3.out]; unfold rn3; rw [if_neg HH.out]⟩, rfl⟩
                case rest =>
                  obtain ⟨⟨j, wh, rfl, rfl, hj, hN⟩, rfl⟩ := hcut
                  have HN := Lib.hid hN
                  clear hN HN3
                  by_cases h0 : j = s.size
                  · have d0 : ((j : Int) != s.size) = false := by simp; omega
                    have HF := Lib.hid (show rn0 s.data.toList = (wh, true) by
                      rw [HN.out]; unfold rn5; rw [if_pos (by rw [len_dropN]; omega)])
                    clear h0
                    go_wp2_with fail
                    go_ret2
                    exact numRn_of w HF.out
                  · have d0 : ((j : Int) != s.size) = true := by simp; omega
                    have HF := Lib.hid (show rn0 s.data.toList = (false, false) by
                      rw [HN.out]; unfold rn5; rw [if_neg (by rw [len_dropN]; omega)])
                    clear h0
                    go_wp2_with fail
                    go_ret2
                    exact numRn_of w HF.out

set_option maxHeartbeats 400000 in
theorem refnum_rn (s : ByteArray) (w : World) : Calls Tryd.prog 29 #[.string s] w (NumRn s w) := by
  by_cases hs : s.size ≤ 40
  · exact refnum_fit s w hs
  · have d40 : decide ((40 : Int) < s.size) = true := decide_eq_true (by omega)
    have HF := Lib.hid (show rn0 s.data.toList = (false, false) by
      unfold rn0; rw [if_pos (by rw [← Lib.size_eq]; omega)])
    clear hs
    go_enter Tryd.func29, Tryd.ntmps29
    go_wp2_with fail
    go_ret2
    exact numRn_of w HF.out

end Go.Proofs.YtakmkhkbeabgcaaDoor

/-
  The document's Number and the program's say the same.
-/
namespace Go.Proofs.YtakmkhkbeabgcaaDoor
open Go.RowKit

theorem dd_drop (l : List UInt8) : dd l = l.drop (ndL l) := by
  induction l with
  | nil => rfl
  | cons a t ih =>
    rw [ndL_cons]
    unfold dd at ih ⊢
    rw [List.dropWhile_cons]
    cases digU a with
    | true => simpa using ih
    | false => rfl
theorem cutD_eq (l : List UInt8) : cutDigitsP l = (l.drop (ndL l), decide (ndL l ≠ 0)) := by
  unfold cutDigitsP
  rw [dd_drop]
  congr 1
  have := ndL_le l
  rw [List.length_drop, Bool.eq_iff_iff, decide_eq_true_eq, decide_eq_true_eq]
  omega
theorem begin_hd (l : List UInt8) (a b : UInt8) (ha : a ≠ 0) (hb : b ≠ 0) : beginB l [a, b] = decide (hdN l = a ∨ hdN l = b) := by
  cases l with
  | nil => exact (decide_eq_false (fun h => h.elim (fun h => ha h.symm) (fun h => hb h.symm))).symm
  | cons c r =>
    show [a, b].contains c = decide (c = a ∨ c = b)
    rw [Bool.eq_iff_iff, decide_eq_true_eq, List.contains_iff_mem]
    simp
theorem pre_hd (l : List UInt8) (a : UInt8) (ha : a ≠ 0) : Lib.hasPrefix l [a] = decide (hdN l = a) := by
  cases l with
  | nil => exact (decide_eq_false (fun h => ha h.symm)).symm
  | cons c r =>
    show List.isPrefixOf [a] (c :: r) = decide (c = a)
    rw [Bool.eq_iff_iff, decide_eq_true_eq, List.isPrefixOf_iff_prefix, List.cons_prefix_cons]
    exact ⟨fun h => h.1.symm, fun h => ⟨h.symm, List.nil_prefix⟩⟩
theorem trim_hd (l : List UInt8) (a : UInt8) (ha : a ≠ 0) : Lib.trimPrefix l [a] = if hdN l = a then l.drop 1 else l := by
  unfold Lib.trimPrefix
  have h := pre_hd l a ha
  split
  · rename_i h1
    rw [if_pos (of_decide_eq_true (h.symm.trans h1))]
    rfl
  · rename_i h1
    rw [if_neg (fun e => h1 (h.trans (decide_eq_true e)))]

def okE (l : List UInt8) : Bool := (cutExponentP l).2 && (cutExponentP l).1.isEmpty
theorem rn5_eq (wh : Bool) (l : List UInt8) : rn5 wh l = (l.isEmpty && wh, l.isEmpty) := by
  unfold rn5
  cases l <;> simp
theorem rn3_eq (wh : Bool) (l : List UInt8) : rn3 wh l = (okE l && (wh && l.isEmpty), okE l) := by
  unfold rn3 okE cutExponentP
  rw [begin_hd l 101 69 (by decide) (by decide)]
  by_cases h : hdN l = 101 ∨ hdN l = 69
  · rw [if_pos h, if_pos (decide_eq_true h), cutD_eq]
    have hl : l.isEmpty = false := by
      cases l with
      | nil => exact absurd h (by decide)
      | cons => rfl
    have hs : (if hdN (l.drop 1) = 43 ∨ hdN (l.drop 1) = 45 then (l.drop 1).drop 1 else l.drop 1) = signCut (l.drop 1) := by
      unfold signCut
      rw [begin_hd (l.drop 1) 43 45 (by decide) (by decide)]
      by_cases h2 : hdN (l.drop 1) = 43 ∨ hdN (l.drop 1) = 45
      · rw [if_pos h2, if_pos (decide_eq_true h2)]
      · rw [if_neg h2, if_neg (by rw [decide_eq_false h2]; decide)]
    rw [hs, hl]
    generalize signCut (l.drop 1) = m
    unfold rn4
    by_cases h3 : ndL m = 0
    · rw [if_pos h3]; simp [h3]
    · rw [if_neg h3, rn5_eq]; simp [h3]
  · rw [if_neg h, if_neg (by rw [decide_eq_false h]; decide), rn5_eq]
    cases l <;> simp

def okF (l : List UInt8) : Bool := (cutFractionP l).2 && okE (cutFractionP l).1
theorem rn2_eq (l : List UInt8) : rn2 l = (okF l && l.isEmpty, okF l) := by
  unfold rn2 okF cutFractionP
  rw [pre_hd l 46 (by decide)]
  by_cases h : hdN l = 46
  · rw [if_pos h, if_pos (decide_eq_true h), trim_hd l 46 (by decide), if_pos h, cutD_eq]
    have hl : l.isEmpty = false := by
      cases l with
      | nil => exact absurd h (by decide)
      | cons => rfl
    rw [hl]
    generalize l.drop 1 = m
    by_cases h3 : ndL m = 0
    · rw [if_pos h3]; simp [h3]
    · rw [if_neg h3, rn3_eq]; simp [h3]
  · rw [if_neg h, if_neg (by rw [decide_eq_false h]; decide), rn3_eq]
    simp
def okW (l : List UInt8) : Bool := (cutWholeP l).2 && okF (cutWholeP l).1
theorem digF {t : List UInt8} (h : ndL t ≠ 0) : okF t = false := by
  cases t with
  | nil => exact absurd rfl h
  | cons a t =>
    rw [ndL_cons] at h
    have hd : digU a = true := by
      cases hx : digU a with
      | true => rfl
      | false => rw [hx] at h; exact absurd rfl h
    have hn : ∀ c : UInt8, digU c = false → a ≠ c := by
      rintro c hc rfl; rw [hd] at hc; cases hc
    unfold okF cutFractionP
    have h1 : decide (hdN (a :: t) = 46) = false := decide_eq_false (hn 46 (by decide))
    have h2 : decide (hdN (a :: t) = 101 ∨ hdN (a :: t) = 69) = false := decide_eq_false (fun h => h.elim (fun h => hn 101 (by decide) h) (fun h => hn 69 (by decide) h))
    rw [pre_hd _ 46 (by decide), h1]
    show (true && okE (a :: t)) = false
    unfold okE cutExponentP
    rw [begin_hd _ 101 69 (by decide) (by decide), h2]
    rfl
theorem rn1_eq (l : List UInt8) : rn1 l = (okW l && (cutWholeP l).1.isEmpty, okW l) := by
  unfold rn1 okW cutWholeP
  rw [pre_hd l 48 (by decide)]
  by_cases h : hdN l = 48
  · rw [if_pos (decide_eq_true h), trim_hd l 48 (by decide), if_pos h]
    cases l with
    | nil => exact absurd h (by decide)
    | cons a t =>
      obtain rfl : a = 48 := h
      rw [ndL_cons, show digU 48 = true from rfl, if_pos rfl]
      show _ = (true && okF t && t.isEmpty, true && okF t)
      by_cases h2 : ndL t = 0
      · rw [h2, if_neg (fun h => h.elim (fun h => by cases h) (fun h => absurd h.1 (by omega))), rn2_eq]
        simp
      · rw [if_pos (.inr ⟨by omega, rfl⟩), digF h2]
        rfl
  · rw [decide_eq_false h]
    simp only [Bool.false_eq_true, if_false]
    rw [cutD_eq]
    by_cases h2 : ndL l = 0
    · rw [if_pos (.inl h2)]; simp [h2]
    · rw [if_neg (fun h3 => h3.elim h2 (fun h3 => h h3.2)), rn2_eq]; simp [h2]
theorem rn0_eq (l : List UInt8) : rn0 l = (numWhole l, numOk l) := by
  unfold rn0 numWhole
  have e : numOk l = (decide (l.length ≤ 40) && okW (Lib.trimPrefix l [45])) := by
    unfold numOk numE numF numW okW okF okE
    simp only [Bool.and_assoc]
  by_cases h : 40 < l.length
  · rw [if_pos h, e, decide_eq_false (by omega)]; rfl
  · rw [if_neg h, e, decide_eq_true (by omega), rn1_eq, ← trim_hd l 45 (by decide)]
    rfl

theorem refnum_any (s : ByteArray) (w : World) : Calls Tryd.prog 29 #[.string s] w fun e w' => e = .returned (.tuple #[.bool (numWhole s.data.toList), .bool (numOk s.data.toList)]) ∧ w = w' := by
  have h := refnum_rn s w
  unfold NumRn at h
  rw [rn0_eq] at h
  exact h

end Go.Proofs.YtakmkhkbeabgcaaDoor
