/-
  DocDeep: its walk.
-/
import Derived.Test.YtibkncgfdhflgaaGreatDoorMDaw
import Derived.Test.YtibkncgfdhflgaaGreatDoorPlace
namespace Go.Proofs.YtibkncgfdhflgaaGreatDoor
open Go.RowKit

theorem drem_nat (v n : Int) (hn : 0 < n) : ∃ u : Nat, v % n = (u : Int) ∧ (u : Int) < n := ⟨(v % n).toNat, by have := Int.emod_nonneg v (show n ≠ 0 by omega); omega, by have := Int.emod_lt_of_pos v hn; have := Int.emod_nonneg v (show n ≠ 0 by omega); omega⟩
/-- What opens, after j rounds of k. -/
def dS (inl : Bool) (k : Nat) : Nat → List UInt8
  | 0 => []
  | j + 1 => dS inl k j ++ (if inl && decide (j + 1 < k) then [123, 46, 46, 46] else [123, 97])
theorem dS_len (inl : Bool) (k : Nat) : ∀ j, (dS inl k j).length ≤ 4 * j
  | 0 => Nat.le_refl _
  | j + 1 => by
    have := dS_len inl k j
    show (dS inl k j ++ _).length ≤ _
    rw [List.length_append]
    split
    · show _ + 4 ≤ _; omega
    · show _ + 2 ≤ _; omega
def dOk (inl : Bool) (k : Nat) : Bool :=
  let s := dS inl k k
  let r := parseM (s ++ List.replicate k 125)
  tokSmall (lexP (s ++ List.replicate k 125)).1 && (if k ≤ 12 then r.2.2 == 0 && r.2.1 == 0 else r.2.2 == 4 && (decide (r.2.1 < s.length) && s[r.2.1]? == some 123))
theorem d_all : ((List.range 20).all fun k => dOk false (k + 1) && dOk true (k + 1)) = true := by kernel_rfl
theorem d_ok (inl : Bool) {u : Nat} (hu : u < 20) : dOk inl (u + 1) = true := by
  have := List.all_eq_true.1 d_all u (List.mem_range.2 hu)
  rw [Bool.and_eq_true] at this
  cases inl
  · exact this.1
  · exact this.2

set_option maxHeartbeats 8000000 in
set_option maxRecDepth 100000 in
theorem docDeep_walk (n : Int) (inl : Bool) (w : World) : Calls Tryz.prog 4 #[.int .i64 n, .bool inl] w (TrueBelow w) := by
  obtain ⟨u, eu, lu⟩ := drem_nat n 20 (by omega)
  have HPn : ∀ W, Calls Tryz.prog 11 #[.int .i64 n, .int .i64 20] W fun e w' => e = .returned (.int .i64 (u : Int)) ∧ W = w' := fun W => by have := place_any n 20 W (by omega) (by omega); rw [eu] at this; exact this
  have hu : u < 20 := by omega
  clear eu lu
  go_enter Tryz.func4, Tryz.ntmps4
  go_wp2_with fail
  with_reducible refine (HPn _).mono ?_
  rintro e w' ⟨rfl, rfl⟩
  clear HPn
  go_wp2_with fail
  go_loop [6, 7, 8, 9] (fun s t i _ => ∃ (j : Nat) (S T : ByteArray), j ≤ u + 1 ∧ s = .string S ∧ t = .string T ∧ i = .int .i64 j ∧ Hid (S.data.toList = dS inl (u + 1) j) ∧ Hid (T.data.toList = List.replicate j 125)) (fun _ _ i _ => u + 1 - (intOf i).toNat)
  case atStart => exact ⟨0, ⟨#[]⟩, ⟨#[]⟩, by omega, rfl, rfl, rfl, Lib.hid rfl, Lib.hid rfl⟩
  case round =>
    obtain ⟨j, S, T, hj, rfl, rfl, rfl, HS, HT⟩ := hrel
    have zS : S.size ≤ 80 := by
      have h1 := dS_len inl (u + 1) j
      show S.data.toList.length ≤ 80
      rw [HS.out]; omega
    have zT : T.size ≤ 20 := by
      show T.data.toList.length ≤ 20
      rw [HT.out, List.length_replicate]; omega
    have hw : IntKind.i64.wrap ((j : Int) + 1) = (j : Int) + 1 := IntWalk.i64_in _ (by omega)
    by_cases hlt : j < u + 1
    · have hd : decide ((j : Int) < 1 + u) = true := decide_eq_true (by omega)
      have HT2 := Lib.hid (show (T ++ ⟨#[125]⟩).data.toList = List.replicate (j + 1) 125 by
        rw [ByteArray.data_append, Array.toList_append, HT.out, List.replicate_succ'])
      cases inl with
      | false =>
        have HS2 := Lib.hid (show (S ++ ⟨#[123, 97]⟩).data.toList = dS false (u + 1) (j + 1) by
          rw [ByteArray.data_append, Array.toList_append, HS.out]; rfl)
        go_wp2_with fail
        go_round
        case rel => exact ⟨j + 1, S ++ ⟨#[123, 97]⟩, T ++ ⟨#[125]⟩, by omega, rfl, rfl, by go_num, HS2, HT2⟩
        case measure => simp [intOf]; omega
      | true =>
        by_cases h2 : j + 1 < u + 1
        · have hd2 : decide ((j : Int) + 1 < 1 + u) = true := decide_eq_true (by omega)
          have HS2 := Lib.hid (show (S ++ ⟨#[123, 46, 46, 46]⟩).data.toList = dS true (u + 1) (j + 1) by
            rw [ByteArray.data_append, Array.toList_append, HS.out]
            show _ = dS true (u + 1) j ++ (if true && decide (j + 1 < u + 1) then _ else _)
            rw [if_pos (by rw [decide_eq_true h2]; rfl)])
          go_wp2_with fail
          go_round
          case rel => exact ⟨j + 1, S ++ ⟨#[123, 46, 46, 46]⟩, T ++ ⟨#[125]⟩, by omega, rfl, rfl, by go_num, HS2, HT2⟩
          case measure => simp [intOf]; omega
        · have hd2 : decide ((j : Int) + 1 < 1 + u) = false := decide_eq_false (by omega)
          have HS2 := Lib.hid (show (S ++ ⟨#[123, 97]⟩).data.toList = dS true (u + 1) (j + 1) by
            rw [ByteArray.data_append, Array.toList_append, HS.out]
            show _ = dS true (u + 1) j ++ (if true && decide (j + 1 < u + 1) then _ else _)
            rw [if_neg (by rw [decide_eq_false h2]; decide)])
          go_wp2_with fail
          go_round
          case rel => exact ⟨j + 1, S ++ ⟨#[123, 97]⟩, T ++ ⟨#[125]⟩, by omega, rfl, rfl, by go_num, HS2, HT2⟩
          case measure => simp [intOf]; omega
    · have hd : decide ((j : Int) < 1 + u) = false := decide_eq_false (by omega)
      obtain rfl : j = u + 1 := by omega
      have hX : (S ++ T).data.toList = dS inl (u + 1) (u + 1) ++ List.replicate (u + 1) 125 := by
        rw [ByteArray.data_append, Array.toList_append, HS.out, HT.out]
      have hok := d_ok inl hu
      unfold dOk at hok
      dsimp only at hok
      rw [← hX, ← HS.out] at hok
      rw [Bool.and_eq_true] at hok
      have HP := parse_any (S ++ T) w (by rw [ByteArray.size_append]; omega) hok.1
      have hr := hok.2
      have HAW := docAwake
      generalize parseM (S ++ T).data.toList = R at *
      obtain ⟨d, at_, er⟩ := R
      dsimp only at hr
      by_cases h12 : u + 1 ≤ 12
      · rw [if_pos h12] at hr
        simp only [Bool.and_eq_true, beq_iff_eq] at hr
        obtain ⟨rfl, rfl⟩ := hr
        have e12 : decide ((1 : Int) + u ≤ 12) = true := decide_eq_true (by omega)
        clear hX hok HS HT
        go_wp2_with fail
        refine HP.mono ?_
        rintro e w1 ⟨vo, vf, rfl, hdoc, b1⟩
        obtain ⟨vo', vf', e, ho2, hf2⟩ := hdoc
        injection e with e
        have e' := congrArg Array.toList e
        simp at e'
        obtain ⟨rfl, rfl⟩ := e'
        obtain ⟨ao, co, rfl⟩ := ho2.shape
        obtain ⟨af, cf, rfl⟩ := hf2.shape
        dsimp only at ho2 hf2
        have HB := Lib.hid (b1.alloc b1.size (.cells #[.slice ao d.ops.length co, .slice af d.frags.length cf] 25))
        clear HP b1 ho2 hf2 e
        go_wp2_with fail
        refine (HAW _).mono ?_
        rintro e w4 ⟨rfl, b4⟩
        go_wp2_with fail
        go_ret
        exact ⟨rfl, HB.out.trans (b4.mono HB.out.size)⟩
      · rw [if_neg h12] at hr
        simp only [Bool.and_eq_true, beq_iff_eq, decide_eq_true_eq] at hr
        obtain ⟨rfl, hlt2, hat⟩ := hr
        have e12 : decide ((1 : Int) + u ≤ 12) = false := decide_eq_false (by omega)
        have hlt3 : at_ < S.size := hlt2
        have hd3 : decide ((at_ : Int) < (S.size : Int)) = true := decide_eq_true (by omega)
        have hd4 : decide (at_ < S.size) = true := decide_eq_true hlt3
        have hge : decide ((0 : Int) ≤ (at_ : Int)) = true := decide_eq_true (by omega)
        have hS123 : S[at_] = 123 := by
          have h1 : S.data.toList[at_] = 123 := by
            rw [List.getElem?_eq_getElem hlt2] at hat
            exact Option.some.inj hat
          rw [ByteArray.getElem_eq_getElem_data]
          rw [← Array.getElem_toList]; exact h1
        clear hX hok HS HT hat hlt2
        go_wp2_with fail
        refine HP.mono ?_
        rintro e w1 ⟨vo, vf, rfl, hdoc, b1⟩
        obtain ⟨vo', vf', e, ho2, hf2⟩ := hdoc
        injection e with e
        have e' := congrArg Array.toList e
        simp at e'
        obtain ⟨rfl, rfl⟩ := e'
        obtain ⟨ao, co, rfl⟩ := ho2.shape
        obtain ⟨af, cf, rfl⟩ := hf2.shape
        dsimp only at ho2 hf2
        have HB := Lib.hid (b1.alloc b1.size (.cells #[.slice ao d.ops.length co, .slice af d.frags.length cf] 25))
        clear HP b1 ho2 hf2 e
        go_wp2_with fail
        refine (HAW _).mono ?_
        rintro e w4 ⟨rfl, b4⟩
        go_wp2_with fail
        go_ret
        exact ⟨rfl, HB.out.trans (b4.mono HB.out.size)⟩

end Go.Proofs.YtibkncgfdhflgaaGreatDoor
