/-
  What refectoryref01.Hex answers.
-/
import Derived.Test.YtakmkhkbeabgcaaDoorRef3
import Derived.Test.YtakmkhkbeabgcaaDoorUnqSpec
namespace Go.Proofs.YtakmkhkbeabgcaaDoor
open Go.RowKit

theorem ret_i64r {a b : Int} (h : a = b) : Ending.returned (.int .i64 a) = .returned (.int .i64 b) := by rw [h]

def hexI (l : List UInt8) : Int := match hexL l with
  | none => -1
  | some v => v

/-- The number that the first j digits at a place make. -/
def hxAt (s : ByteArray) (i : Nat) : Nat → Int
  | 0 => 0
  | j + 1 => hxAt s i j * 16 + hexV (by1 s i j)

theorem four_at (s : ByteArray) (i : Nat) (h : i + 4 ≤ s.size) : ∃ a b c d : UInt8, a.toNat = by1 s i 0 ∧ b.toNat = by1 s i 1 ∧ c.toNat = by1 s i 2 ∧ d.toNat = by1 s i 3 ∧ s.data.toList.drop i = a :: b :: c :: d :: s.data.toList.drop (i + 4) :=
  ⟨s[i], s[i + 1], s[i + 2], s[i + 3], by1_zero s i (by omega), by1_at s i 1 (by omega), by1_at s i 2 (by omega), by1_at s i 3 (by omega), by
    rw [drop_cons s i (by omega), drop_cons s (i + 1) (by omega), drop_cons s (i + 1 + 1) (by omega), drop_cons s (i + 1 + 1 + 1) (by omega)]⟩

theorem hexI_end (s : ByteArray) (i : Nat) (h : i + 4 ≤ s.size) (hq : ∀ q, q < 4 → 0 ≤ hexV (by1 s i q)) : hexI (s.data.toList.drop i) = hxAt s i 4 := by
  obtain ⟨a, b, c, d, ha, hb, hc, hd, e⟩ := four_at s i h
  have q0 := hq 0 (by omega)
  have q1 := hq 1 (by omega)
  have q2 := hq 2 (by omega)
  have q3 := hq 3 (by omega)
  unfold hexI
  rw [e, hexL_four, ha, hb, hc, hd, if_pos ⟨q0, q1, q2, q3⟩]
  simp only [hxAt]
  omega
theorem hexI_bad (s : ByteArray) (i q : Nat) (h : i + 4 ≤ s.size) (hq : q < 4) (hb : hexV (by1 s i q) < 0) : hexI (s.data.toList.drop i) = -1 := by
  obtain ⟨a, b, c, d, ha, hb', hc, hd, e⟩ := four_at s i h
  unfold hexI
  rw [e, hexL_four, ha, hb', hc, hd, if_neg]
  rintro ⟨q0, q1, q2, q3⟩
  have : q = 0 ∨ q = 1 ∨ q = 2 ∨ q = 3 := by omega
  rcases this with rfl | rfl | rfl | rfl <;> omega
theorem hexL_short : ∀ l : List UInt8, l.length < 4 → hexL l = none
  | [], _ => rfl
  | [_], _ => rfl
  | [_, _], _ => rfl
  | [_, _, _], _ => rfl
  | _ :: _ :: _ :: _ :: _, h => by simp at h; omega
theorem hexI_short (s : ByteArray) (i : Nat) (h : s.size < i + 4) : hexI (s.data.toList.drop i) = -1 := by
  unfold hexI
  rw [hexL_short _ (by rw [len_drop]; omega)]

theorem hxAt_range (s : ByteArray) (i : Nat) : ∀ j, j ≤ 4 → (∀ q, q < j → 0 ≤ hexV (by1 s i q)) → 0 ≤ hxAt s i j ∧ hxAt s i j ≤ 65535 := by
  intro j hj hq
  have r0 := hexV_range (by1 s i 0)
  have r1 := hexV_range (by1 s i 1)
  have r2 := hexV_range (by1 s i 2)
  have r3 := hexV_range (by1 s i 3)
  have : j = 0 ∨ j = 1 ∨ j = 2 ∨ j = 3 ∨ j = 4 := by omega
  rcases this with rfl | rfl | rfl | rfl | rfl
  · simp [hxAt]
  · have := hq 0 (by omega); simp only [hxAt]; omega
  · have := hq 0 (by omega); have := hq 1 (by omega); simp only [hxAt]; omega
  · have := hq 0 (by omega); have := hq 1 (by omega); have := hq 2 (by omega); simp only [hxAt]; omega
  · have := hq 0 (by omega); have := hq 1 (by omega); have := hq 2 (by omega); have := hq 3 (by omega); simp only [hxAt]; omega

theorem dig_is (c : Int) (b : Bool) (h : digB c = b) (w : World) :
    Calls Tryd.prog 27 #[.int .u8 c] w fun e w' => e = .returned (.bool b) ∧ w = w' := by
  subst h
  exact refDigit_any c w

set_option maxHeartbeats 2000000 in
set_option maxRecDepth 100000 in
theorem hex_any (s : ByteArray) (i : Nat) (w : World) (hs : s.size ≤ 1000000000) (hi : i ≤ 2000000000) :
    Calls Tryd.prog 91 #[.string s, .int .i64 i] w fun e w' => e = .returned (.int .i64 (hexI (s.data.toList.drop i))) ∧ w = w' := by
  by_cases h4 : i + 4 ≤ s.size
  · have f0 : decide ((s.size : Int) < (i : Int) + 4) = false := by simp; omega
    go_enter Tryd.func91, Tryd.ntmps91
    go_wp2_with fail
    go_loop [5, 6, 7] (fun v k _ => ∃ (j : Nat) (V : Int), j ≤ 4 ∧ k = .int .i64 ((i : Int) + j) ∧ v = .int .i64 V ∧ 0 ≤ V ∧ V ≤ 65535 ∧ Hid (V = hxAt s i j ∧ ∀ q, q < j → 0 ≤ hexV (by1 s i q))) (fun _ k _ => i + 4 - (intOf k).toNat)
    case atStart => exact ⟨0, 0, by omega, by simp, rfl, by omega, by omega, Lib.hid ⟨rfl, fun q h => by omega⟩⟩
    case round =>
      obtain ⟨j, V, hj, rfl, rfl, hV0, hV1, HQ⟩ := hrel
      by_cases hlt : j < 4
      · have hij : i + j < s.size := by omega
        have hbj := by1_at s i j hij
        have hbl := by1_lt s i j
        have HB := Lib.hid (show ∀ b : Nat, by1 s i j = b → hexV (by1 s i j) < 0 → hexI (s.data.toList.drop i) = -1 from fun _ _ h => hexI_bad s i j h4 hlt h)
        have HS := Lib.hid (show ∀ X : Int, 0 ≤ hexV (by1 s i j) → X = V * 16 + hexV (by1 s i j) → (0 ≤ X ∧ X ≤ 65535) ∧ (X = hxAt s i (j + 1) ∧ ∀ q, q < j + 1 → 0 ≤ hexV (by1 s i q)) from by
          intro X h0 hX
          have hq : ∀ q, q < j + 1 → 0 ≤ hexV (by1 s i q) := by
            intro q hq
            by_cases e : q = j
            · rw [e]; exact h0
            · exact HQ.out.2 q (by omega)
          have hx : X = hxAt s i (j + 1) := by rw [hX, HQ.out.1]; rfl
          exact ⟨by rw [hx]; exact hxAt_range s i (j + 1) (by omega) hq, hx, hq⟩)
        generalize by1 s i j = B at *
        by_cases c1 : 48 ≤ B ∧ B ≤ 57
        · have fd : digB (B : Int) = true := by simp [digB]; omega
          have w1 : IntKind.u8.wrap ((B : Int) - 48) = (B : Int) - 48 := wraps_u8 _ (by omega) (by omega)
          have HX := Lib.hid (HS.out (16 * V + ((B : Int) - 48)) (by unfold hexV; rw [if_pos (by omega)]; omega) (by unfold hexV; rw [if_pos (by omega)]; omega))
          go_wp2_with ((go_at_call 27); (refine (dig_is _ _ fd _).mono ?_); rintro e w1 ⟨rfl, rfl⟩)
          go_round
          case rel => exact ⟨j + 1, 16 * V + ((B : Int) - 48), by omega, by go_num, rfl, HX.out.1.1, HX.out.1.2, Lib.hid HX.out.2⟩
          case measure => simp [intOf]; omega
        · have fd : digB (B : Int) = false := by simp [digB]; omega
          by_cases c2 : 97 ≤ B
          · have f2 : decide ((97 : Int) ≤ (B : Int)) = true := by simp; omega
            by_cases c3 : B ≤ 102
            · have f3 : decide ((B : Int) ≤ 102) = true := by simp; omega
              have w1 : IntKind.u8.wrap ((B : Int) - 97) = (B : Int) - 97 := wraps_u8 _ (by omega) (by omega)
              have hv : hexV (B : Int) = (B : Int) - 87 := by unfold hexV; rw [if_neg (by omega), if_pos (by omega)]
              have HX := Lib.hid (HS.out (16 * V + ((B : Int) - 97) + 10) (by omega) (by omega))
              clear hv
              go_wp2_with ((go_at_call 27); (refine (dig_is _ _ fd _).mono ?_); rintro e w1 ⟨rfl, rfl⟩)
              go_round
              case rel => exact ⟨j + 1, 16 * V + ((B : Int) - 97) + 10, by omega, by go_num, rfl, HX.out.1.1, HX.out.1.2, Lib.hid HX.out.2⟩
              case measure => simp [intOf]; omega
            · have f3 : decide ((B : Int) ≤ 102) = false := by simp; omega
              have f4 : decide ((65 : Int) ≤ (B : Int)) = true := by simp; omega
              have f5 : decide ((B : Int) ≤ 70) = false := by simp; omega
              have HX := Lib.hid (HB.out B rfl (by unfold hexV; rw [if_neg (by omega), if_neg (by omega), if_neg (by omega)]; omega))
              go_wp2_with ((go_at_call 27); (refine (dig_is _ _ fd _).mono ?_); rintro e w1 ⟨rfl, rfl⟩)
              go_ret
              exact ⟨ret_i64r HX.out.symm, rfl⟩
          · have f2 : decide ((97 : Int) ≤ (B : Int)) = false := by simp; omega
            by_cases c4 : 65 ≤ B
            · have f4 : decide ((65 : Int) ≤ (B : Int)) = true := by simp; omega
              by_cases c5 : B ≤ 70
              · have f5 : decide ((B : Int) ≤ 70) = true := by simp; omega
                have w1 : IntKind.u8.wrap ((B : Int) - 65) = (B : Int) - 65 := wraps_u8 _ (by omega) (by omega)
                have hv : hexV (B : Int) = (B : Int) - 55 := by unfold hexV; rw [if_neg (by omega), if_neg (by omega), if_pos (by omega)]
                have HX := Lib.hid (HS.out (16 * V + ((B : Int) - 65) + 10) (by omega) (by omega))
                clear hv
                go_wp2_with ((go_at_call 27); (refine (dig_is _ _ fd _).mono ?_); rintro e w1 ⟨rfl, rfl⟩)
                go_round
                case rel => exact ⟨j + 1, 16 * V + ((B : Int) - 65) + 10, by omega, by go_num, rfl, HX.out.1.1, HX.out.1.2, Lib.hid HX.out.2⟩
                case measure => simp [intOf]; omega
              · have f5 : decide ((B : Int) ≤ 70) = false := by simp; omega
                have HX := Lib.hid (HB.out B rfl (by unfold hexV; rw [if_neg (by omega), if_neg (by omega), if_neg (by omega)]; omega))
                go_wp2_with ((go_at_call 27); (refine (dig_is _ _ fd _).mono ?_); rintro e w1 ⟨rfl, rfl⟩)
                go_ret
                exact ⟨ret_i64r HX.out.symm, rfl⟩
            · have f4 : decide ((65 : Int) ≤ (B : Int)) = false := by simp; omega
              have HX := Lib.hid (HB.out B rfl (by unfold hexV; rw [if_neg (by omega), if_neg (by omega), if_neg (by omega)]; omega))
              go_wp2_with ((go_at_call 27); (refine (dig_is _ _ fd _).mono ?_); rintro e w1 ⟨rfl, rfl⟩)
              go_ret
              exact ⟨ret_i64r HX.out.symm, rfl⟩
      · have hj4 : j = 4 := by omega
        subst hj4
        have HE := Lib.hid (show hexI (s.data.toList.drop i) = V by rw [hexI_end s i h4 HQ.out.2, HQ.out.1])
        go_wp2_with fail
        go_ret
        exact ⟨ret_i64r HE.out.symm, rfl⟩
  · have f0 : decide ((s.size : Int) < (i : Int) + 4) = true := by simp; omega
    have HE := Lib.hid (hexI_short s i (by omega))
    go_enter Tryd.func91, Tryd.ntmps91
    go_wp2_with fail
    go_ret
    exact ⟨ret_i64r HE.out.symm, rfl⟩

end Go.Proofs.YtakmkhkbeabgcaaDoor
