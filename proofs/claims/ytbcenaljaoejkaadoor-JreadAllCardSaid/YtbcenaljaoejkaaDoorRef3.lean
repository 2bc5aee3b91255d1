/-
  What refectoryref01.escape and Quote answer.
-/
import Derived.Test.YtbcenaljaoejkaaDoorRef2
import Derived.Test.YtbcenaljaoejkaaDoorSmall
namespace Go.Proofs.YtbcenaljaoejkaaDoor
open Go.RowKit

def escOf (c : Int) : Int := if c = 8 then 98 else if c = 9 then 116 else if c = 10 then 110 else if c = 12 then 102 else if c = 13 then 114 else 0

theorem ret_u8 {a b : Int} (h : a = b) : Ending.returned (.int .u8 a) = .returned (.int .u8 b) := by rw [h]

set_option maxHeartbeats 1000000 in
theorem escape_any (c : Int) (w : World) :
    Calls Tryd.prog 38 #[.int .u8 c] w fun e w' => e = .returned (.int .u8 (escOf c)) ∧ w = w' := by
  go_enter Tryd.func38, Tryd.ntmps38
  go_wp2
  all_goals
    go_ret
    refine ⟨ret_u8 ?_, rfl⟩
    simp only [beq_iff_eq, beq_eq_false_iff_ne, ne_eq] at *
    simp [escOf, *]

theorem letOf_esc (c : Int) (h1 : c ≠ 34) (h2 : c ≠ 92) : letOf c = escOf c := by
  unfold letOf escOf
  rw [if_neg (by omega)]

/-- One byte of the text, quoted, as the page's own answer lays it on. -/
def escS (s : ByteArray) (pos : Nat) : ByteArray := ⟨(escB (s.get! pos)).toArray⟩

theorem esc_same (s : ByteArray) (pos : Nat) (h : pos < s.size) (hc : s[pos] = 34 ∨ s[pos] = 92) : bl (⟨#[92]⟩ ++ s.extract pos (pos + 1)) = escB s[pos] := by
  show (_ ++ _ : ByteArray).data.toList = _
  rw [app_list, ext_one s pos h]
  rcases hc with hc | hc <;> rw [hc] <;> rfl

theorem quote_take (s : ByteArray) (pos : Nat) (h : pos < s.size) : quoteIn (s.data.toList.take (pos + 1)) = quoteIn (s.data.toList.take pos) ++ escB s[pos] := by
  unfold quoteIn
  rw [take_next s.data.toList pos s[pos] (by rw [List.getElem?_eq_getElem (by simpa using h)]; rfl), List.flatMap_append]
  simp

theorem escB_len (b : UInt8) : (escB b).length ≤ 6 := by
  unfold escB
  split
  · simp
  · split <;> simp

theorem esc_hex (b : UInt8) (h0 : letOf b.toNat = 0) (h : b.toNat < 32 ∨ b.toNat = 127) : bl (⟨#[92, 117, 48, 48]⟩ ++ hexS.extract (b.toNat / 16) (b.toNat / 16 + 1) ++ hexS.extract (b.toNat % 16) (b.toNat % 16 + 1)) = escB b := by
  have e : escB b = [92, 117, 48, 48, hexD (b.toNat / 16), hexD (b.toNat % 16)] := by
    unfold escB
    rw [if_neg (by simpa using h0), if_pos h]
  have hz : hexS.size = 16 := rfl
  rw [e]
  show (_ ++ _ ++ _ : ByteArray).data.toList = _
  rw [app_list, app_list, ext_one hexS _ (by omega), ext_one hexS _ (by omega)]
  have k1 := hex_at (b.toNat / 16) (by omega)
  have k0 := hex_at (b.toNat % 16) (by omega)
  rw [UInt8.toNat_inj.1 k1, UInt8.toNat_inj.1 k0]
  rfl
theorem esc_plain (s : ByteArray) (pos : Nat) (hp : pos < s.size) (h0 : letOf s[pos].toNat = 0) (h : ¬ (s[pos].toNat < 32 ∨ s[pos].toNat = 127)) : bl (s.extract pos (pos + 1)) = escB s[pos] := by
  have e : escB s[pos] = [s[pos]] := by
    unfold escB
    rw [if_neg (by simpa using h0), if_neg h]
  rw [e]
  exact ext_one s pos hp
theorem esc_let (b : UInt8) (h0 : letOf b.toNat ≠ 0) (he : letOf b.toNat = escOf b.toNat) : bl (⟨#[92]⟩ ++ ⟨#[UInt8.ofNat (escOf b.toNat).toNat]⟩) = escB b := by
  have e : escB b = [92, UInt8.ofNat (letOf b.toNat).toNat] := by
    unfold escB
    rw [if_pos h0]
  rw [e, he]
  exact two_list _ _
theorem of_bl (T : ByteArray) (l : List UInt8) (h : T.data.toList = l) : T = ⟨l.toArray⟩ := by
  subst h
  rfl
theorem slice_u8 (d : Nat) (hd : d < 16) (w : World) : (Instr.slice 9 (.string ⟨#[48, 49, 50, 51, 52, 53, 54, 55, 56, 57, 97, 98, 99, 100, 101, 102]⟩) (some (.int .u8 (d : Int))) (some (.int .u8 ((d : Int) + 1))) none).run Tryd.prog w = .ok (.string (hexS.extract d (d + 1))) w := by
  have hz : hexS.size = 16 := rfl
  rw [run_slice_string_if _ _ _ _ _ _ _ Tryd.underlying9, if_pos (by show _ ∧ _ ≤ (hexS.size : Int); omega), if_pos (by omega)]
  have e : ((d : Int) + 1).toNat = d + 1 := by omega
  rw [e]
  rfl

/-- The loop's relation in the page's Quote. -/
def RQ (s : ByteArray) (w : World) (a i : Value) (wr : World) : Prop :=
  ∃ (pos : Nat) (S : ByteArray), pos ≤ s.size ∧ i = .int .i64 pos ∧ a = .string S ∧ bl S = 34 :: quoteIn (s.data.toList.take pos) ∧ Below w.heap.size w wr

theorem bl_size (S : ByteArray) : S.size = (bl S).length := rfl
theorem bl_app (a b : ByteArray) : bl (a ++ b) = bl a ++ bl b := app_list a b

set_option maxHeartbeats 4000000 in
set_option maxRecDepth 100000 in
theorem refQuote_any (s : ByteArray) (w : World) (hs : s.size ≤ 100000000) :
    Calls Tryd.prog 30 #[.string s] w (StrBelow w (quoteB s.data.toList)) := by
  cases hv : Lib.validD s.data.toList with
  | false =>
    have HQ := Lib.hid (show quoteB s.data.toList = [] by unfold quoteB; rw [hv]; rfl)
    go_enter Tryd.func30, Tryd.ntmps30
    go_wp2_with ((go_at_call 36); (refine (refValid_any _ _ (by omega)).mono ?_); rintro e w1 ⟨rfl, rfl⟩)
    go_ret
    exact strBelow_mk (l := []) (by rw [HQ.out]) (Below.refl _ _)
  | true =>
    have HQ := Lib.hid (show quoteB s.data.toList = 34 :: (quoteIn s.data.toList ++ [34]) by unfold quoteB; rw [if_pos hv])
    go_enter Tryd.func30, Tryd.ntmps30
    go_wp2_with ((go_at_call 36); (refine (refValid_any _ _ (by omega)).mono ?_); rintro e w1 ⟨rfl, rfl⟩)
    go_loopw [3, 4] (fun a i wr => RQ s w a i wr) (fun _ i _ => s.size - (intOf i).toNat)
    case atStart => exact ⟨0, _, Nat.zero_le _, rfl, rfl, rfl, Below.refl _ _⟩
    case round =>
      obtain ⟨pos, S, hp, rfl, rfl, hS, hbw⟩ := hrel
      have hSl : S.size ≤ 1 + 6 * pos := by
        rw [bl_size, hS, List.length_cons]
        have := quoteIn_len (s.data.toList.take pos)
        rw [List.length_take] at this
        omega
      have HS := Lib.hid hS
      clear hS
      by_cases hlt : pos < s.size
      · have HN := Lib.hid (quote_take s pos hlt)
        have hbl := (s[pos]).toNat_lt
        have hsx : (Instr.slice 9 (.string s) (some (.int .i64 (pos : Int))) (some (.int .i64 ((pos : Int) + 1))) none).run Tryd.prog wr = .ok (.string (s.extract pos (pos + 1))) wr := by
          rw [run_slice_string_if _ _ _ _ _ _ _ Tryd.underlying9, if_pos (by omega), if_pos (by omega)]
          have e : ((pos : Int) + 1).toNat = pos + 1 := by omega
          rw [e]
          rfl
        have hxs : (s.extract pos (pos + 1)).size ≤ 1 := by simp; omega
        by_cases c1 : s[pos].toNat = 34 ∨ s[pos].toNat = 92
        · have HE := Lib.hid (esc_same s pos hlt (by rcases c1 with c1 | c1; exact .inl (UInt8.toNat_inj.1 c1); exact .inr (UInt8.toNat_inj.1 c1)))
          have FIN : Hid (bl (S ++ ⟨#[92]⟩ ++ s.extract pos (pos + 1)) = 34 :: quoteIn (s.data.toList.take (pos + 1))) := Lib.hid (by
            rw [HN.out, ← List.cons_append, ← HS.out, ← HE.out]
            simp only [bl_app, List.append_assoc])
          have z1 : (S ++ ⟨#[92]⟩).size ≤ 1000000000 := by rw [ByteArray.size_append]; have : (⟨#[92]⟩ : ByteArray).size = 1 := rfl; omega
          rcases c1 with c1 | c1
          · have f1 : ((s[pos].toNat : Int) == 34) = true := by rw [c1]; rfl
            clear c1
            go_wp2_with fail
            go_roundw
            case rel => exact ⟨pos + 1, _, by omega, by go_num, rfl, FIN.out, hbw⟩
            case measure => simp [intOf]; omega
          · have f1 : ((s[pos].toNat : Int) == 34) = false := by rw [c1]; rfl
            have f2 : ((s[pos].toNat : Int) == 92) = true := by rw [c1]; rfl
            clear c1
            go_wp2_with fail
            go_roundw
            case rel => exact ⟨pos + 1, _, by omega, by go_num, rfl, FIN.out, hbw⟩
            case measure => simp [intOf]; omega
        · have f1 : ((s[pos].toNat : Int) == 34) = false := by simp; omega
          have f2 : ((s[pos].toNat : Int) == 92) = false := by simp; omega
          have HL := Lib.hid (letOf_esc (s[pos].toNat : Int) (by omega) (by omega))
          by_cases c2 : escOf (s[pos].toNat : Int) = 0
          · have f3 : (escOf (s[pos].toNat : Int) != 0) = false := by simp [c2]
            have hl0 : letOf (s[pos].toNat : Int) = 0 := by rw [HL.out, c2]
            by_cases c3 : s[pos].toNat < 32 ∨ s[pos].toNat = 127
            · have HE := Lib.hid (esc_hex s[pos] hl0 c3)
              clear hl0 c2
              obtain ⟨d1, hd1⟩ : ∃ d : Nat, s[pos].toNat / 16 = d := ⟨_, rfl⟩
              obtain ⟨d0, hd0⟩ : ∃ d : Nat, s[pos].toNat % 16 = d := ⟨_, rfl⟩
              rw [hd1, hd0] at HE
              have l1 : d1 < 16 := by omega
              have l0 : d0 < 16 := by omega
              have q1 : (s[pos].toNat : Int) / 16 = (d1 : Int) := by omega
              have q0 : (s[pos].toNat : Int) % 16 = (d0 : Int) := by omega
              have q2 : (s[pos].toNat : Int).tdiv 16 = (d1 : Int) := by rw [Int.tdiv_eq_ediv_of_nonneg (by omega)]; exact q1
              have q3 : (s[pos].toNat : Int).tmod 16 = (d0 : Int) := by rw [Int.tmod_eq_emod_of_nonneg (by omega)]; exact q0
              have w1 : IntKind.u8.wrap ((d1 : Int) + 1) = (d1 : Int) + 1 := wraps_u8 _ (by omega) (by omega)
              have w0 : IntKind.u8.wrap ((d0 : Int) + 1) = (d0 : Int) + 1 := wraps_u8 _ (by omega) (by omega)
              have w2 : IntKind.u8.wrap (d1 : Int) = (d1 : Int) := wraps_u8 _ (by omega) (by omega)
              have w3 : IntKind.u8.wrap (d0 : Int) = (d0 : Int) := wraps_u8 _ (by omega) (by omega)
              have s1 := slice_u8 d1 l1
              have s0 := slice_u8 d0 l0
              have x1 : (hexS.extract d1 (d1 + 1)).size ≤ 1 := by simp; omega
              have x0 : (hexS.extract d0 (d0 + 1)).size ≤ 1 := by simp; omega
              have z1 : (S ++ ⟨#[92, 117, 48, 48]⟩).size ≤ 1000000000 := by rw [ByteArray.size_append]; have : (⟨#[92, 117, 48, 48]⟩ : ByteArray).size = 4 := rfl; omega
              have z2 : (S ++ ⟨#[92, 117, 48, 48]⟩ ++ hexS.extract d1 (d1 + 1)).size ≤ 1000000001 := by rw [ByteArray.size_append]; omega
              have FIN : Hid (bl (S ++ ⟨#[92, 117, 48, 48]⟩ ++ hexS.extract d1 (d1 + 1) ++ hexS.extract d0 (d0 + 1)) = 34 :: quoteIn (s.data.toList.take (pos + 1))) := Lib.hid (by
                rw [HN.out, ← List.cons_append, ← HS.out, ← HE.out]
                simp only [bl_app, List.append_assoc])
              clear l1 l0 hd1 hd0
              rcases c3 with c3 | c3
              · have f4 : decide ((s[pos].toNat : Int) < 32) = true := by simp; omega
                clear c3
                go_wp2_with ((go_at_call 38); (refine (escape_any _ _).mono ?_); rintro e w1 ⟨rfl, rfl⟩)
                go_quiet (fail)
                go_wp2_with fail
                go_roundw
                case rel => exact ⟨pos + 1, _, by omega, by go_num, rfl, FIN.out, below_drewN hbw _⟩
                case measure => simp [intOf]; omega
              · have f4 : decide ((s[pos].toNat : Int) < 32) = false := by simp; omega
                have f5 : ((s[pos].toNat : Int) == 127) = true := by simp; omega
                clear c3
                go_wp2_with ((go_at_call 38); (refine (escape_any _ _).mono ?_); rintro e w1 ⟨rfl, rfl⟩)
                go_quiet (fail)
                go_wp2_with fail
                go_roundw
                case rel => exact ⟨pos + 1, _, by omega, by go_num, rfl, FIN.out, below_drewN hbw _⟩
                case measure => simp [intOf]; omega
            · have HE := Lib.hid (esc_plain s pos hlt hl0 c3)
              have f4 : decide ((s[pos].toNat : Int) < 32) = false := by simp; omega
              have f5 : ((s[pos].toNat : Int) == 127) = false := by simp; omega
              clear hl0 c2
              have FIN : Hid (bl (S ++ s.extract pos (pos + 1)) = 34 :: quoteIn (s.data.toList.take (pos + 1))) := Lib.hid (by
                rw [HN.out, ← List.cons_append, ← HS.out, ← HE.out]
                simp only [bl_app])
              clear c3
              go_wp2_with ((go_at_call 38); (refine (escape_any _ _).mono ?_); rintro e w1 ⟨rfl, rfl⟩)
              go_roundw
              case rel => exact ⟨pos + 1, _, by omega, by go_num, rfl, FIN.out, hbw⟩
              case measure => simp [intOf]; omega
          · have f3 : (escOf (s[pos].toNat : Int) != 0) = true := by simpa using c2
            have hcv := conv_one wr (escOf (s[pos].toNat : Int))
            have HE := Lib.hid (esc_let s[pos] (by rw [HL.out]; exact c2) HL.out)
            have z1 : (S ++ ⟨#[92]⟩).size ≤ 1000000000 := by rw [ByteArray.size_append]; have : (⟨#[92]⟩ : ByteArray).size = 1 := rfl; omega
            have FIN : Hid (bl (S ++ ⟨#[92]⟩ ++ ⟨#[UInt8.ofNat (escOf (s[pos].toNat : Int)).toNat]⟩) = 34 :: quoteIn (s.data.toList.take (pos + 1))) := Lib.hid (by
              rw [HN.out, ← List.cons_append, ← HS.out, ← HE.out]
              simp only [bl_app, List.append_assoc])
            have hbA : Below w.heap.size w (wr.alloc (.cells #[.int .u8 (escOf (s[pos].toNat : Int))] 5)) := hbw.alloc hbw.size _
            clear c2
            go_wp2_with ((go_at_call 38); (refine (escape_any _ _).mono ?_); rintro e w1 ⟨rfl, rfl⟩)
            go_roundw
            case rel => exact ⟨pos + 1, _, by omega, by go_num, rfl, FIN.out, hbA⟩
            case measure => simp [intOf]; omega
      · have HE := Lib.hid (show quoteB s.data.toList = bl S ++ [34] by
          have e := HS.out
          rw [List.take_of_length_le (by show s.size ≤ pos; omega)] at e
          rw [HQ.out, e]
          rfl)
        go_wp2_with fail
        go_ret
        refine ⟨?_, hbw⟩
        rw [HE.out]
        exact congrArg (fun T => Ending.returned (.string T)) (of_bl (S ++ ⟨#[34]⟩) (bl S ++ [34]) (bl_app S ⟨#[34]⟩))

end Go.Proofs.YtbcenaljaoejkaaDoor
