/-
  DocParts: its walk, eight of its sixteen ways.
-/
import Derived.Test.YtibkncgfdhflgaaGreatDoorMDpv
namespace Go.Proofs.YtibkncgfdhflgaaGreatDoor
open Go.RowKit

set_option maxHeartbeats 40000000 in
set_option maxRecDepth 100000 in
theorem parts_1000 (n : Int) (w : World) : Calls Tryz.prog 6 #[.bool true, .bool false, .bool false, .bool false, .int .i64 n] w (TrueBelow w) := by
  obtain ⟨u, eu, lu⟩ := prem_nat n 5 (by omega)
  have HPn : ∀ W, Calls Tryz.prog 11 #[.int .i64 n, .int .i64 5] W fun e w' => e = .returned (.int .i64 (u : Int)) ∧ W = w' := fun W => by have := place_any n 5 W (by omega) (by omega); rw [eu] at this; exact this
  have hu : u < 5 := by omega
  have HAW := Lib.hid docAwake
  clear eu lu
  have HSZ := Lib.hid (fun (k : Nat) (hk : k < 5) => (show (partsS true false false false k).length ≤ 300 from by
    have := p_rest_at true false false false hk
    unfold pRest at this
    simp only [Bool.and_eq_true, decide_eq_true_eq] at this
    exact this.2.2.2.2))
  go_enter Tryz.func6, Tryz.ntmps6
  go_wp2_with fail
  with_reducible refine (HPn _).mono ?_
  rintro e w' ⟨rfl, rfl⟩
  clear HPn
  go_wp2_with fail
  go_loopw [11, 13] (fun s i wr => ∃ (j : Nat) (S : ByteArray), s = .string S ∧ i = .int .i64 j ∧ j ≤ u ∧ S.size ≤ 320 ∧ Hid (S.data.toList = partsS true false false false j) ∧ Below w.heap.size w wr) (fun _ i _ => u - (intOf i).toNat)
  case atStart => exact ⟨0, _, rfl, rfl, by omega, by decide, Lib.hid (by kernel_rfl), Below.refl _ _⟩
  case round =>
    obtain ⟨j, S, rfl, rfl, hj, hz, HS, hb⟩ := hrel
    have hw : IntKind.i64.wrap ((j : Int) + 1) = (j : Int) + 1 := IntWalk.i64_in _ (by omega)
    have HB := Lib.hid hb
    by_cases hlt : j < u
    · have hd : decide ((j : Int) < (u : Int)) = true := decide_eq_true (by omega)
      have hd2 : decide (j < u) = true := decide_eq_true hlt
      have HDG := lawDigits_any 1 j wr (by omega) (by decide) (by decide)
      rw [dgs_one (show j < 5 by omega)] at HDG
      have HS2 := Lib.hid (show (((S ++ ⟨#[102, 114, 97, 103, 109, 101, 110, 116, 32, 70]⟩) ++ ⟨[48 + UInt8.ofNat j].toArray⟩) ++ ⟨#[32, 111, 110, 32, 84, 64, 100, 123, 97, 125]⟩ : ByteArray).data.toList = partsS true false false false (j + 1) by
        rw [ByteArray.data_append, Array.toList_append, ByteArray.data_append, Array.toList_append, ByteArray.data_append, Array.toList_append, HS.out, partsS_eq, partsS_eq]
        show _ = _ ++ (partsFr j ++ ([102, 114, 97, 103, 109, 101, 110, 116, 32, 70] ++ ((48 + UInt8.ofNat j) :: [32, 111, 110, 32, 84, 64, 100, 123, 97, 125])))
        simp [List.append_assoc])
      have hz1 : (S ++ ⟨#[102, 114, 97, 103, 109, 101, 110, 116, 32, 70]⟩ : ByteArray).size ≤ 340 := by rw [ByteArray.size_append]; show S.size + 10 ≤ _; omega
      have hzd : (⟨[48 + UInt8.ofNat j].toArray⟩ : ByteArray).size ≤ 1 := Nat.le_refl _
      have hz2 : ((S ++ ⟨#[102, 114, 97, 103, 109, 101, 110, 116, 32, 70]⟩) ++ ⟨[48 + UInt8.ofNat j].toArray⟩ : ByteArray).size ≤ 341 := by rw [ByteArray.size_append]; omega
      clear hb
      generalize (⟨[48 + UInt8.ofNat j].toArray⟩ : ByteArray) = DG at *
      go_wp2_with fail
      refine HDG.mono ?_
      rintro e w2 ⟨rfl, mm, rfl⟩
      go_wp2_with fail
      go_roundw
      case rel => exact ⟨j + 1, _, rfl, by go_num, by omega, Nat.le_trans (Nat.le_of_eq (congrArg List.length HS2.out)) (by have := HSZ.out (j + 1) (by omega); omega), HS2, below_drewN HB.out _⟩
      case measure => simp [intOf]; omega
    · have hd : decide ((j : Int) < (u : Int)) = false := decide_eq_false (by omega)
      have hd2 : decide (j < u) = false := decide_eq_false hlt
      obtain rfl : j = u := by omega
      have hok := p_rest_at true false false false hu
      have hops := p_ops true false false false hu
      unfold pRest at hok
      dsimp only at hok
      rw [← HS.out] at hok hops
      simp only [Bool.and_eq_true, beq_iff_eq, decide_eq_true_eq] at hok
      obtain ⟨q1, q2, q3, q4, q5⟩ := hok
      have HP := parse_any S wr (by omega) q1
      generalize parseM S.data.toList = R at *
      obtain ⟨⟨ops, fs⟩, at_, er⟩ := R
      dsimp only at q2 q3 q4 hops
      subst q2 q3 hops q4
      clear HS HSZ hb q1 q5 hz
      go_wp2_with fail
      refine HP.mono ?_
      rintro e w1 ⟨vo, vf, rfl, hdoc, b1⟩
      dsimp only at hdoc
      obtain ⟨g, off, cc, a3, c3, va, vc, da, dc, sg, so, sc, ya, yc, ⟨rfl, rfl, hcc, hsc, hg, hsg⟩, ⟨k0, k1, k2, k3, k4⟩, ⟨s1, s2, s6, t0⟩, hvars⟩ := parts_facts hdoc
      rw [show (if false = true then [vA1, vA2] else [] : List VarT).length = 0 from rfl] at k2
      rw [show (if false = true then [dA1, dA2] else [] : List DirT).length = 0 from rfl] at k3
      rw [show (⟨(if true = true then [78] else [] : List UInt8).toArray⟩ : ByteArray) = ⟨#[78]⟩ from rfl] at k1
      have hgl := hg.2
      have hsl := hsg.2
      have HB2 := Lib.hid ((HB.out.trans (b1.mono HB.out.size)).alloc (Nat.le_trans HB.out.size b1.size) (.cells #[.slice (some ⟨g, off, none⟩) 1 cc, .slice a3 fs.length c3] 25))
      clear hdoc b1 HP hg hsg
      clear hvars
      go_wp2_with fail
      all_goals
        first
          | exact undef_no (by assumption)
          | (refine (HAW.out _).mono ?_
             rintro e w4 ⟨rfl, b4⟩
             go_wp2_with fail
             go_ret
             exact ⟨rfl, ((HB2.out.alloc HB2.out.size _).trans (b4.mono (HB2.out.alloc HB2.out.size _).size))⟩)

set_option maxHeartbeats 40000000 in
set_option maxRecDepth 100000 in
theorem parts_1001 (n : Int) (w : World) : Calls Tryz.prog 6 #[.bool true, .bool false, .bool false, .bool true, .int .i64 n] w (TrueBelow w) := by
  obtain ⟨u, eu, lu⟩ := prem_nat n 5 (by omega)
  have HPn : ∀ W, Calls Tryz.prog 11 #[.int .i64 n, .int .i64 5] W fun e w' => e = .returned (.int .i64 (u : Int)) ∧ W = w' := fun W => by have := place_any n 5 W (by omega) (by omega); rw [eu] at this; exact this
  have hu : u < 5 := by omega
  have HAW := Lib.hid docAwake
  clear eu lu
  have HSZ := Lib.hid (fun (k : Nat) (hk : k < 5) => (show (partsS true false false true k).length ≤ 300 from by
    have := p_rest_at true false false true hk
    unfold pRest at this
    simp only [Bool.and_eq_true, decide_eq_true_eq] at this
    exact this.2.2.2.2))
  go_enter Tryz.func6, Tryz.ntmps6
  go_wp2_with fail
  with_reducible refine (HPn _).mono ?_
  rintro e w' ⟨rfl, rfl⟩
  clear HPn
  go_wp2_with fail
  go_loopw [11, 13] (fun s i wr => ∃ (j : Nat) (S : ByteArray), s = .string S ∧ i = .int .i64 j ∧ j ≤ u ∧ S.size ≤ 320 ∧ Hid (S.data.toList = partsS true false false true j) ∧ Below w.heap.size w wr) (fun _ i _ => u - (intOf i).toNat)
  case atStart => exact ⟨0, _, rfl, rfl, by omega, by decide, Lib.hid (by kernel_rfl), Below.refl _ _⟩
  case round =>
    obtain ⟨j, S, rfl, rfl, hj, hz, HS, hb⟩ := hrel
    have hw : IntKind.i64.wrap ((j : Int) + 1) = (j : Int) + 1 := IntWalk.i64_in _ (by omega)
    have HB := Lib.hid hb
    by_cases hlt : j < u
    · have hd : decide ((j : Int) < (u : Int)) = true := decide_eq_true (by omega)
      have hd2 : decide (j < u) = true := decide_eq_true hlt
      have HDG := lawDigits_any 1 j wr (by omega) (by decide) (by decide)
      rw [dgs_one (show j < 5 by omega)] at HDG
      have HS2 := Lib.hid (show (((S ++ ⟨#[102, 114, 97, 103, 109, 101, 110, 116, 32, 70]⟩) ++ ⟨[48 + UInt8.ofNat j].toArray⟩) ++ ⟨#[32, 111, 110, 32, 84, 64, 100, 123, 97, 125]⟩ : ByteArray).data.toList = partsS true false false true (j + 1) by
        rw [ByteArray.data_append, Array.toList_append, ByteArray.data_append, Array.toList_append, ByteArray.data_append, Array.toList_append, HS.out, partsS_eq, partsS_eq]
        show _ = _ ++ (partsFr j ++ ([102, 114, 97, 103, 109, 101, 110, 116, 32, 70] ++ ((48 + UInt8.ofNat j) :: [32, 111, 110, 32, 84, 64, 100, 123, 97, 125])))
        simp [List.append_assoc])
      have hz1 : (S ++ ⟨#[102, 114, 97, 103, 109, 101, 110, 116, 32, 70]⟩ : ByteArray).size ≤ 340 := by rw [ByteArray.size_append]; show S.size + 10 ≤ _; omega
      have hzd : (⟨[48 + UInt8.ofNat j].toArray⟩ : ByteArray).size ≤ 1 := Nat.le_refl _
      have hz2 : ((S ++ ⟨#[102, 114, 97, 103, 109, 101, 110, 116, 32, 70]⟩) ++ ⟨[48 + UInt8.ofNat j].toArray⟩ : ByteArray).size ≤ 341 := by rw [ByteArray.size_append]; omega
      clear hb
      generalize (⟨[48 + UInt8.ofNat j].toArray⟩ : ByteArray) = DG at *
      go_wp2_with fail
      refine HDG.mono ?_
      rintro e w2 ⟨rfl, mm, rfl⟩
      go_wp2_with fail
      go_roundw
      case rel => exact ⟨j + 1, _, rfl, by go_num, by omega, Nat.le_trans (Nat.le_of_eq (congrArg List.length HS2.out)) (by have := HSZ.out (j + 1) (by omega); omega), HS2, below_drewN HB.out _⟩
      case measure => simp [intOf]; omega
    · have hd : decide ((j : Int) < (u : Int)) = false := decide_eq_false (by omega)
      have hd2 : decide (j < u) = false := decide_eq_false hlt
      obtain rfl : j = u := by omega
      have hok := p_rest_at true false false true hu
      have hops := p_ops true false false true hu
      unfold pRest at hok
      dsimp only at hok
      rw [← HS.out] at hok hops
      simp only [Bool.and_eq_true, beq_iff_eq, decide_eq_true_eq] at hok
      obtain ⟨q1, q2, q3, q4, q5⟩ := hok
      have HP := parse_any S wr (by omega) q1
      generalize parseM S.data.toList = R at *
      obtain ⟨⟨ops, fs⟩, at_, er⟩ := R
      dsimp only at q2 q3 q4 hops
      subst q2 q3 hops q4
      clear HS HSZ hb q1 q5 hz
      go_wp2_with fail
      refine HP.mono ?_
      rintro e w1 ⟨vo, vf, rfl, hdoc, b1⟩
      dsimp only at hdoc
      obtain ⟨g, off, cc, a3, c3, va, vc, da, dc, sg, so, sc, ya, yc, ⟨rfl, rfl, hcc, hsc, hg, hsg⟩, ⟨k0, k1, k2, k3, k4⟩, ⟨s1, s2, s6, t0⟩, hvars⟩ := parts_facts hdoc
      rw [show (if false = true then [vA1, vA2] else [] : List VarT).length = 0 from rfl] at k2
      rw [show (if false = true then [dA1, dA2] else [] : List DirT).length = 0 from rfl] at k3
      rw [show (⟨(if true = true then [78] else [] : List UInt8).toArray⟩ : ByteArray) = ⟨#[78]⟩ from rfl] at k1
      have hgl := hg.2
      have hsl := hsg.2
      have HB2 := Lib.hid ((HB.out.trans (b1.mono HB.out.size)).alloc (Nat.le_trans HB.out.size b1.size) (.cells #[.slice (some ⟨g, off, none⟩) 1 cc, .slice a3 fs.length c3] 25))
      clear hdoc b1 HP hg hsg
      clear hvars
      go_wp2_with fail
      all_goals
        first
          | exact undef_no (by assumption)
          | (refine (HAW.out _).mono ?_
             rintro e w4 ⟨rfl, b4⟩
             go_wp2_with fail
             go_ret
             exact ⟨rfl, ((HB2.out.alloc HB2.out.size _).trans (b4.mono (HB2.out.alloc HB2.out.size _).size))⟩)

set_option maxHeartbeats 40000000 in
set_option maxRecDepth 100000 in
theorem parts_1010 (n : Int) (w : World) : Calls Tryz.prog 6 #[.bool true, .bool false, .bool true, .bool false, .int .i64 n] w (TrueBelow w) := by
  obtain ⟨u, eu, lu⟩ := prem_nat n 5 (by omega)
  have HPn : ∀ W, Calls Tryz.prog 11 #[.int .i64 n, .int .i64 5] W fun e w' => e = .returned (.int .i64 (u : Int)) ∧ W = w' := fun W => by have := place_any n 5 W (by omega) (by omega); rw [eu] at this; exact this
  have hu : u < 5 := by omega
  have HAW := Lib.hid docAwake
  clear eu lu
  have HSZ := Lib.hid (fun (k : Nat) (hk : k < 5) => (show (partsS true false true false k).length ≤ 300 from by
    have := p_rest_at true false true false hk
    unfold pRest at this
    simp only [Bool.and_eq_true, decide_eq_true_eq] at this
    exact this.2.2.2.2))
  go_enter Tryz.func6, Tryz.ntmps6
  go_wp2_with fail
  with_reducible refine (HPn _).mono ?_
  rintro e w' ⟨rfl, rfl⟩
  clear HPn
  go_wp2_with fail
  go_loopw [11, 13] (fun s i wr => ∃ (j : Nat) (S : ByteArray), s = .string S ∧ i = .int .i64 j ∧ j ≤ u ∧ S.size ≤ 320 ∧ Hid (S.data.toList = partsS true false true false j) ∧ Below w.heap.size w wr) (fun _ i _ => u - (intOf i).toNat)
  case atStart => exact ⟨0, _, rfl, rfl, by omega, by decide, Lib.hid (by kernel_rfl), Below.refl _ _⟩
  case round =>
    obtain ⟨j, S, rfl, rfl, hj, hz, HS, hb⟩ := hrel
    have hw : IntKind.i64.wrap ((j : Int) + 1) = (j : Int) + 1 := IntWalk.i64_in _ (by omega)
    have HB := Lib.hid hb
    by_cases hlt : j < u
    · have hd : decide ((j : Int) < (u : Int)) = true := decide_eq_true (by omega)
      have hd2 : decide (j < u) = true := decide_eq_true hlt
      have HDG := lawDigits_any 1 j wr (by omega) (by decide) (by decide)
      rw [dgs_one (show j < 5 by omega)] at HDG
      have HS2 := Lib.hid (show (((S ++ ⟨#[102, 114, 97, 103, 109, 101, 110, 116, 32, 70]⟩) ++ ⟨[48 + UInt8.ofNat j].toArray⟩) ++ ⟨#[32, 111, 110, 32, 84, 64, 100, 123, 97, 125]⟩ : ByteArray).data.toList = partsS true false true false (j + 1) by
        rw [ByteArray.data_append, Array.toList_append, ByteArray.data_append, Array.toList_append, ByteArray.data_append, Array.toList_append, HS.out, partsS_eq, partsS_eq]
        show _ = _ ++ (partsFr j ++ ([102, 114, 97, 103, 109, 101, 110, 116, 32, 70] ++ ((48 + UInt8.ofNat j) :: [32, 111, 110, 32, 84, 64, 100, 123, 97, 125])))
        simp [List.append_assoc])
      have hz1 : (S ++ ⟨#[102, 114, 97, 103, 109, 101, 110, 116, 32, 70]⟩ : ByteArray).size ≤ 340 := by rw [ByteArray.size_append]; show S.size + 10 ≤ _; omega
      have hzd : (⟨[48 + UInt8.ofNat j].toArray⟩ : ByteArray).size ≤ 1 := Nat.le_refl _
      have hz2 : ((S ++ ⟨#[102, 114, 97, 103, 109, 101, 110, 116, 32, 70]⟩) ++ ⟨[48 + UInt8.ofNat j].toArray⟩ : ByteArray).size ≤ 341 := by rw [ByteArray.size_append]; omega
      clear hb
      generalize (⟨[48 + UInt8.ofNat j].toArray⟩ : ByteArray) = DG at *
      go_wp2_with fail
      refine HDG.mono ?_
      rintro e w2 ⟨rfl, mm, rfl⟩
      go_wp2_with fail
      go_roundw
      case rel => exact ⟨j + 1, _, rfl, by go_num, by omega, Nat.le_trans (Nat.le_of_eq (congrArg List.length HS2.out)) (by have := HSZ.out (j + 1) (by omega); omega), HS2, below_drewN HB.out _⟩
      case measure => simp [intOf]; omega
    · have hd : decide ((j : Int) < (u : Int)) = false := decide_eq_false (by omega)
      have hd2 : decide (j < u) = false := decide_eq_false hlt
      obtain rfl : j = u := by omega
      have hok := p_rest_at true false true false hu
      have hops := p_ops true false true false hu
      unfold pRest at hok
      dsimp only at hok
      rw [← HS.out] at hok hops
      simp only [Bool.and_eq_true, beq_iff_eq, decide_eq_true_eq] at hok
      obtain ⟨q1, q2, q3, q4, q5⟩ := hok
      have HP := parse_any S wr (by omega) q1
      generalize parseM S.data.toList = R at *
      obtain ⟨⟨ops, fs⟩, at_, er⟩ := R
      dsimp only at q2 q3 q4 hops
      subst q2 q3 hops q4
      clear HS HSZ hb q1 q5 hz
      go_wp2_with fail
      refine HP.mono ?_
      rintro e w1 ⟨vo, vf, rfl, hdoc, b1⟩
      dsimp only at hdoc
      obtain ⟨g, off, cc, a3, c3, va, vc, da, dc, sg, so, sc, ya, yc, ⟨rfl, rfl, hcc, hsc, hg, hsg⟩, ⟨k0, k1, k2, k3, k4⟩, ⟨s1, s2, s6, t0⟩, hvars⟩ := parts_facts hdoc
      rw [show (if false = true then [vA1, vA2] else [] : List VarT).length = 0 from rfl] at k2
      rw [show (if true = true then [dA1, dA2] else [] : List DirT).length = 2 from rfl] at k3
      rw [show (⟨(if true = true then [78] else [] : List UInt8).toArray⟩ : ByteArray) = ⟨#[78]⟩ from rfl] at k1
      have hgl := hg.2
      have hsl := hsg.2
      have HB2 := Lib.hid ((HB.out.trans (b1.mono HB.out.size)).alloc (Nat.le_trans HB.out.size b1.size) (.cells #[.slice (some ⟨g, off, none⟩) 1 cc, .slice a3 fs.length c3] 25))
      clear hdoc b1 HP hg hsg
      clear hvars
      go_wp2_with fail
      all_goals
        first
          | exact undef_no (by assumption)
          | (refine (HAW.out _).mono ?_
             rintro e w4 ⟨rfl, b4⟩
             go_wp2_with fail
             go_ret
             exact ⟨rfl, ((HB2.out.alloc HB2.out.size _).trans (b4.mono (HB2.out.alloc HB2.out.size _).size))⟩)

set_option maxHeartbeats 40000000 in
set_option maxRecDepth 100000 in
theorem parts_1011 (n : Int) (w : World) : Calls Tryz.prog 6 #[.bool true, .bool false, .bool true, .bool true, .int .i64 n] w (TrueBelow w) := by
  obtain ⟨u, eu, lu⟩ := prem_nat n 5 (by omega)
  have HPn : ∀ W, Calls Tryz.prog 11 #[.int .i64 n, .int .i64 5] W fun e w' => e = .returned (.int .i64 (u : Int)) ∧ W = w' := fun W => by have := place_any n 5 W (by omega) (by omega); rw [eu] at this; exact this
  have hu : u < 5 := by omega
  have HAW := Lib.hid docAwake
  clear eu lu
  have HSZ := Lib.hid (fun (k : Nat) (hk : k < 5) => (show (partsS true false true true k).length ≤ 300 from by
    have := p_rest_at true false true true hk
    unfold pRest at this
    simp only [Bool.and_eq_true, decide_eq_true_eq] at this
    exact this.2.2.2.2))
  go_enter Tryz.func6, Tryz.ntmps6
  go_wp2_with fail
  with_reducible refine (HPn _).mono ?_
  rintro e w' ⟨rfl, rfl⟩
  clear HPn
  go_wp2_with fail
  go_loopw [11, 13] (fun s i wr => ∃ (j : Nat) (S : ByteArray), s = .string S ∧ i = .int .i64 j ∧ j ≤ u ∧ S.size ≤ 320 ∧ Hid (S.data.toList = partsS true false true true j) ∧ Below w.heap.size w wr) (fun _ i _ => u - (intOf i).toNat)
  case atStart => exact ⟨0, _, rfl, rfl, by omega, by decide, Lib.hid (by kernel_rfl), Below.refl _ _⟩
  case round =>
    obtain ⟨j, S, rfl, rfl, hj, hz, HS, hb⟩ := hrel
    have hw : IntKind.i64.wrap ((j : Int) + 1) = (j : Int) + 1 := IntWalk.i64_in _ (by omega)
    have HB := Lib.hid hb
    by_cases hlt : j < u
    · have hd : decide ((j : Int) < (u : Int)) = true := decide_eq_true (by omega)
      have hd2 : decide (j < u) = true := decide_eq_true hlt
      have HDG := lawDigits_any 1 j wr (by omega) (by decide) (by decide)
      rw [dgs_one (show j < 5 by omega)] at HDG
      have HS2 := Lib.hid (show (((S ++ ⟨#[102, 114, 97, 103, 109, 101, 110, 116, 32, 70]⟩) ++ ⟨[48 + UInt8.ofNat j].toArray⟩) ++ ⟨#[32, 111, 110, 32, 84, 64, 100, 123, 97, 125]⟩ : ByteArray).data.toList = partsS true false true true (j + 1) by
        rw [ByteArray.data_append, Array.toList_append, ByteArray.data_append, Array.toList_append, ByteArray.data_append, Array.toList_append, HS.out, partsS_eq, partsS_eq]
        show _ = _ ++ (partsFr j ++ ([102, 114, 97, 103, 109, 101, 110, 116, 32, 70] ++ ((48 + UInt8.ofNat j) :: [32, 111, 110, 32, 84, 64, 100, 123, 97, 125])))
        simp [List.append_assoc])
      have hz1 : (S ++ ⟨#[102, 114, 97, 103, 109, 101, 110, 116, 32, 70]⟩ : ByteArray).size ≤ 340 := by rw [ByteArray.size_append]; show S.size + 10 ≤ _; omega
      have hzd : (⟨[48 + UInt8.ofNat j].toArray⟩ : ByteArray).size ≤ 1 := Nat.le_refl _
      have hz2 : ((S ++ ⟨#[102, 114, 97, 103, 109, 101, 110, 116, 32, 70]⟩) ++ ⟨[48 + UInt8.ofNat j].toArray⟩ : ByteArray).size ≤ 341 := by rw [ByteArray.size_append]; omega
      clear hb
      generalize (⟨[48 + UInt8.ofNat j].toArray⟩ : ByteArray) = DG at *
      go_wp2_with fail
      refine HDG.mono ?_
      rintro e w2 ⟨rfl, mm, rfl⟩
      go_wp2_with fail
      go_roundw
      case rel => exact ⟨j + 1, _, rfl, by go_num, by omega, Nat.le_trans (Nat.le_of_eq (congrArg List.length HS2.out)) (by have := HSZ.out (j + 1) (by omega); omega), HS2, below_drewN HB.out _⟩
      case measure => simp [intOf]; omega
    · have hd : decide ((j : Int) < (u : Int)) = false := decide_eq_false (by omega)
      have hd2 : decide (j < u) = false := decide_eq_false hlt
      obtain rfl : j = u := by omega
      have hok := p_rest_at true false true true hu
      have hops := p_ops true false true true hu
      unfold pRest at hok
      dsimp only at hok
      rw [← HS.out] at hok hops
      simp only [Bool.and_eq_true, beq_iff_eq, decide_eq_true_eq] at hok
      obtain ⟨q1, q2, q3, q4, q5⟩ := hok
      have HP := parse_any S wr (by omega) q1
      generalize parseM S.data.toList = R at *
      obtain ⟨⟨ops, fs⟩, at_, er⟩ := R
      dsimp only at q2 q3 q4 hops
      subst q2 q3 hops q4
      clear HS HSZ hb q1 q5 hz
      go_wp2_with fail
      refine HP.mono ?_
      rintro e w1 ⟨vo, vf, rfl, hdoc, b1⟩
      dsimp only at hdoc
      obtain ⟨g, off, cc, a3, c3, va, vc, da, dc, sg, so, sc, ya, yc, ⟨rfl, rfl, hcc, hsc, hg, hsg⟩, ⟨k0, k1, k2, k3, k4⟩, ⟨s1, s2, s6, t0⟩, hvars⟩ := parts_facts hdoc
      rw [show (if false = true then [vA1, vA2] else [] : List VarT).length = 0 from rfl] at k2
      rw [show (if true = true then [dA1, dA2] else [] : List DirT).length = 2 from rfl] at k3
      rw [show (⟨(if true = true then [78] else [] : List UInt8).toArray⟩ : ByteArray) = ⟨#[78]⟩ from rfl] at k1
      have hgl := hg.2
      have hsl := hsg.2
      have HB2 := Lib.hid ((HB.out.trans (b1.mono HB.out.size)).alloc (Nat.le_trans HB.out.size b1.size) (.cells #[.slice (some ⟨g, off, none⟩) 1 cc, .slice a3 fs.length c3] 25))
      clear hdoc b1 HP hg hsg
      clear hvars
      go_wp2_with fail
      all_goals
        first
          | exact undef_no (by assumption)
          | (refine (HAW.out _).mono ?_
             rintro e w4 ⟨rfl, b4⟩
             go_wp2_with fail
             go_ret
             exact ⟨rfl, ((HB2.out.alloc HB2.out.size _).trans (b4.mono (HB2.out.alloc HB2.out.size _).size))⟩)

set_option maxHeartbeats 40000000 in
set_option maxRecDepth 100000 in
theorem parts_1100 (n : Int) (w : World) : Calls Tryz.prog 6 #[.bool true, .bool true, .bool false, .bool false, .int .i64 n] w (TrueBelow w) := by
  obtain ⟨u, eu, lu⟩ := prem_nat n 5 (by omega)
  have HPn : ∀ W, Calls Tryz.prog 11 #[.int .i64 n, .int .i64 5] W fun e w' => e = .returned (.int .i64 (u : Int)) ∧ W = w' := fun W => by have := place_any n 5 W (by omega) (by omega); rw [eu] at this; exact this
  have hu : u < 5 := by omega
  have HAW := Lib.hid docAwake
  clear eu lu
  have HSZ := Lib.hid (fun (k : Nat) (hk : k < 5) => (show (partsS true true false false k).length ≤ 300 from by
    have := p_rest_at true true false false hk
    unfold pRest at this
    simp only [Bool.and_eq_true, decide_eq_true_eq] at this
    exact this.2.2.2.2))
  go_enter Tryz.func6, Tryz.ntmps6
  go_wp2_with fail
  with_reducible refine (HPn _).mono ?_
  rintro e w' ⟨rfl, rfl⟩
  clear HPn
  go_wp2_with fail
  go_loopw [11, 13] (fun s i wr => ∃ (j : Nat) (S : ByteArray), s = .string S ∧ i = .int .i64 j ∧ j ≤ u ∧ S.size ≤ 320 ∧ Hid (S.data.toList = partsS true true false false j) ∧ Below w.heap.size w wr) (fun _ i _ => u - (intOf i).toNat)
  case atStart => exact ⟨0, _, rfl, rfl, by omega, by decide, Lib.hid (by kernel_rfl), Below.refl _ _⟩
  case round =>
    obtain ⟨j, S, rfl, rfl, hj, hz, HS, hb⟩ := hrel
    have hw : IntKind.i64.wrap ((j : Int) + 1) = (j : Int) + 1 := IntWalk.i64_in _ (by omega)
    have HB := Lib.hid hb
    by_cases hlt : j < u
    · have hd : decide ((j : Int) < (u : Int)) = true := decide_eq_true (by omega)
      have hd2 : decide (j < u) = true := decide_eq_true hlt
      have HDG := lawDigits_any 1 j wr (by omega) (by decide) (by decide)
      rw [dgs_one (show j < 5 by omega)] at HDG
      have HS2 := Lib.hid (show (((S ++ ⟨#[102, 114, 97, 103, 109, 101, 110, 116, 32, 70]⟩) ++ ⟨[48 + UInt8.ofNat j].toArray⟩) ++ ⟨#[32, 111, 110, 32, 84, 64, 100, 123, 97, 125]⟩ : ByteArray).data.toList = partsS true true false false (j + 1) by
        rw [ByteArray.data_append, Array.toList_append, ByteArray.data_append, Array.toList_append, ByteArray.data_append, Array.toList_append, HS.out, partsS_eq, partsS_eq]
        show _ = _ ++ (partsFr j ++ ([102, 114, 97, 103, 109, 101, 110, 116, 32, 70] ++ ((48 + UInt8.ofNat j) :: [32, 111, 110, 32, 84, 64, 100, 123, 97, 125])))
        simp [List.append_assoc])
      have hz1 : (S ++ ⟨#[102, 114, 97, 103, 109, 101, 110, 116, 32, 70]⟩ : ByteArray).size ≤ 340 := by rw [ByteArray.size_append]; show S.size + 10 ≤ _; omega
      have hzd : (⟨[48 + UInt8.ofNat j].toArray⟩ : ByteArray).size ≤ 1 := Nat.le_refl _
      have hz2 : ((S ++ ⟨#[102, 114, 97, 103, 109, 101, 110, 116, 32, 70]⟩) ++ ⟨[48 + UInt8.ofNat j].toArray⟩ : ByteArray).size ≤ 341 := by rw [ByteArray.size_append]; omega
      clear hb
      generalize (⟨[48 + UInt8.ofNat j].toArray⟩ : ByteArray) = DG at *
      go_wp2_with fail
      refine HDG.mono ?_
      rintro e w2 ⟨rfl, mm, rfl⟩
      go_wp2_with fail
      go_roundw
      case rel => exact ⟨j + 1, _, rfl, by go_num, by omega, Nat.le_trans (Nat.le_of_eq (congrArg List.length HS2.out)) (by have := HSZ.out (j + 1) (by omega); omega), HS2, below_drewN HB.out _⟩
      case measure => simp [intOf]; omega
    · have hd : decide ((j : Int) < (u : Int)) = false := decide_eq_false (by omega)
      have hd2 : decide (j < u) = false := decide_eq_false hlt
      obtain rfl : j = u := by omega
      have hok := p_rest_at true true false false hu
      have hops := p_ops true true false false hu
      unfold pRest at hok
      dsimp only at hok
      rw [← HS.out] at hok hops
      simp only [Bool.and_eq_true, beq_iff_eq, decide_eq_true_eq] at hok
      obtain ⟨q1, q2, q3, q4, q5⟩ := hok
      have HP := parse_any S wr (by omega) q1
      generalize parseM S.data.toList = R at *
      obtain ⟨⟨ops, fs⟩, at_, er⟩ := R
      dsimp only at q2 q3 q4 hops
      subst q2 q3 hops q4
      clear HS HSZ hb q1 q5 hz
      go_wp2_with fail
      refine HP.mono ?_
      rintro e w1 ⟨vo, vf, rfl, hdoc, b1⟩
      dsimp only at hdoc
      obtain ⟨g, off, cc, a3, c3, va, vc, da, dc, sg, so, sc, ya, yc, ⟨rfl, rfl, hcc, hsc, hg, hsg⟩, ⟨k0, k1, k2, k3, k4⟩, ⟨s1, s2, s6, t0⟩, hvars⟩ := parts_facts hdoc
      rw [show (if true = true then [vA1, vA2] else [] : List VarT).length = 2 from rfl] at k2
      rw [show (if false = true then [dA1, dA2] else [] : List DirT).length = 0 from rfl] at k3
      rw [show (⟨(if true = true then [78] else [] : List UInt8).toArray⟩ : ByteArray) = ⟨#[78]⟩ from rfl] at k1
      have hgl := hg.2
      have hsl := hsg.2
      have HB2 := Lib.hid ((HB.out.trans (b1.mono HB.out.size)).alloc (Nat.le_trans HB.out.size b1.size) (.cells #[.slice (some ⟨g, off, none⟩) 1 cc, .slice a3 fs.length c3] 25))
      clear hdoc b1 HP hg hsg
      obtain ⟨vg, vof, rfl, hvc, hvg, v2, v3, u3⟩ := hvars rfl
      have hvl := hvg.2
      clear hvg hvars
      go_wp2_with fail
      all_goals
        first
          | exact undef_no (by assumption)
          | (refine (HAW.out _).mono ?_
             rintro e w4 ⟨rfl, b4⟩
             go_wp2_with fail
             go_ret
             exact ⟨rfl, ((HB2.out.alloc HB2.out.size _).trans (b4.mono (HB2.out.alloc HB2.out.size _).size))⟩)

set_option maxHeartbeats 40000000 in
set_option maxRecDepth 100000 in
theorem parts_1101 (n : Int) (w : World) : Calls Tryz.prog 6 #[.bool true, .bool true, .bool false, .bool true, .int .i64 n] w (TrueBelow w) := by
  obtain ⟨u, eu, lu⟩ := prem_nat n 5 (by omega)
  have HPn : ∀ W, Calls Tryz.prog 11 #[.int .i64 n, .int .i64 5] W fun e w' => e = .returned (.int .i64 (u : Int)) ∧ W = w' := fun W => by have := place_any n 5 W (by omega) (by omega); rw [eu] at this; exact this
  have hu : u < 5 := by omega
  have HAW := Lib.hid docAwake
  clear eu lu
  have HSZ := Lib.hid (fun (k : Nat) (hk : k < 5) => (show (partsS true true false true k).length ≤ 300 from by
    have := p_rest_at true true false true hk
    unfold pRest at this
    simp only [Bool.and_eq_true, decide_eq_true_eq] at this
    exact this.2.2.2.2))
  go_enter Tryz.func6, Tryz.ntmps6
  go_wp2_with fail
  with_reducible refine (HPn _).mono ?_
  rintro e w' ⟨rfl, rfl⟩
  clear HPn
  go_wp2_with fail
  go_loopw [11, 13] (fun s i wr => ∃ (j : Nat) (S : ByteArray), s = .string S ∧ i = .int .i64 j ∧ j ≤ u ∧ S.size ≤ 320 ∧ Hid (S.data.toList = partsS true true false true j) ∧ Below w.heap.size w wr) (fun _ i _ => u - (intOf i).toNat)
  case atStart => exact ⟨0, _, rfl, rfl, by omega, by decide, Lib.hid (by kernel_rfl), Below.refl _ _⟩
  case round =>
    obtain ⟨j, S, rfl, rfl, hj, hz, HS, hb⟩ := hrel
    have hw : IntKind.i64.wrap ((j : Int) + 1) = (j : Int) + 1 := IntWalk.i64_in _ (by omega)
    have HB := Lib.hid hb
    by_cases hlt : j < u
    · have hd : decide ((j : Int) < (u : Int)) = true := decide_eq_true (by omega)
      have hd2 : decide (j < u) = true := decide_eq_true hlt
      have HDG := lawDigits_any 1 j wr (by omega) (by decide) (by decide)
      rw [dgs_one (show j < 5 by omega)] at HDG
      have HS2 := Lib.hid (show (((S ++ ⟨#[102, 114, 97, 103, 109, 101, 110, 116, 32, 70]⟩) ++ ⟨[48 + UInt8.ofNat j].toArray⟩) ++ ⟨#[32, 111, 110, 32, 84, 64, 100, 123, 97, 125]⟩ : ByteArray).data.toList = partsS true true false true (j + 1) by
        rw [ByteArray.data_append, Array.toList_append, ByteArray.data_append, Array.toList_append, ByteArray.data_append, Array.toList_append, HS.out, partsS_eq, partsS_eq]
        show _ = _ ++ (partsFr j ++ ([102, 114, 97, 103, 109, 101, 110, 116, 32, 70] ++ ((48 + UInt8.ofNat j) :: [32, 111, 110, 32, 84, 64, 100, 123, 97, 125])))
        simp [List.append_assoc])
      have hz1 : (S ++ ⟨#[102, 114, 97, 103, 109, 101, 110, 116, 32, 70]⟩ : ByteArray).size ≤ 340 := by rw [ByteArray.size_append]; show S.size + 10 ≤ _; omega
      have hzd : (⟨[48 + UInt8.ofNat j].toArray⟩ : ByteArray).size ≤ 1 := Nat.le_refl _
      have hz2 : ((S ++ ⟨#[102, 114, 97, 103, 109, 101, 110, 116, 32, 70]⟩) ++ ⟨[48 + UInt8.ofNat j].toArray⟩ : ByteArray).size ≤ 341 := by rw [ByteArray.size_append]; omega
      clear hb
      generalize (⟨[48 + UInt8.ofNat j].toArray⟩ : ByteArray) = DG at *
      go_wp2_with fail
      refine HDG.mono ?_
      rintro e w2 ⟨rfl, mm, rfl⟩
      go_wp2_with fail
      go_roundw
      case rel => exact ⟨j + 1, _, rfl, by go_num, by omega, Nat.le_trans (Nat.le_of_eq (congrArg List.length HS2.out)) (by have := HSZ.out (j + 1) (by omega); omega), HS2, below_drewN HB.out _⟩
      case measure => simp [intOf]; omega
    · have hd : decide ((j : Int) < (u : Int)) = false := decide_eq_false (by omega)
      have hd2 : decide (j < u) = false := decide_eq_false hlt
      obtain rfl : j = u := by omega
      have hok := p_rest_at true true false true hu
      have hops := p_ops true true false true hu
      unfold pRest at hok
      dsimp only at hok
      rw [← HS.out] at hok hops
      simp only [Bool.and_eq_true, beq_iff_eq, decide_eq_true_eq] at hok
      obtain ⟨q1, q2, q3, q4, q5⟩ := hok
      have HP := parse_any S wr (by omega) q1
      generalize parseM S.data.toList = R at *
      obtain ⟨⟨ops, fs⟩, at_, er⟩ := R
      dsimp only at q2 q3 q4 hops
      subst q2 q3 hops q4
      clear HS HSZ hb q1 q5 hz
      go_wp2_with fail
      refine HP.mono ?_
      rintro e w1 ⟨vo, vf, rfl, hdoc, b1⟩
      dsimp only at hdoc
      obtain ⟨g, off, cc, a3, c3, va, vc, da, dc, sg, so, sc, ya, yc, ⟨rfl, rfl, hcc, hsc, hg, hsg⟩, ⟨k0, k1, k2, k3, k4⟩, ⟨s1, s2, s6, t0⟩, hvars⟩ := parts_facts hdoc
      rw [show (if true = true then [vA1, vA2] else [] : List VarT).length = 2 from rfl] at k2
      rw [show (if false = true then [dA1, dA2] else [] : List DirT).length = 0 from rfl] at k3
      rw [show (⟨(if true = true then [78] else [] : List UInt8).toArray⟩ : ByteArray) = ⟨#[78]⟩ from rfl] at k1
      have hgl := hg.2
      have hsl := hsg.2
      have HB2 := Lib.hid ((HB.out.trans (b1.mono HB.out.size)).alloc (Nat.le_trans HB.out.size b1.size) (.cells #[.slice (some ⟨g, off, none⟩) 1 cc, .slice a3 fs.length c3] 25))
      clear hdoc b1 HP hg hsg
      obtain ⟨vg, vof, rfl, hvc, hvg, v2, v3, u3⟩ := hvars rfl
      have hvl := hvg.2
      clear hvg hvars
      go_wp2_with fail
      all_goals
        first
          | exact undef_no (by assumption)
          | (refine (HAW.out _).mono ?_
             rintro e w4 ⟨rfl, b4⟩
             go_wp2_with fail
             go_ret
             exact ⟨rfl, ((HB2.out.alloc HB2.out.size _).trans (b4.mono (HB2.out.alloc HB2.out.size _).size))⟩)

set_option maxHeartbeats 40000000 in
set_option maxRecDepth 100000 in
theorem parts_1110 (n : Int) (w : World) : Calls Tryz.prog 6 #[.bool true, .bool true, .bool true, .bool false, .int .i64 n] w (TrueBelow w) := by
  obtain ⟨u, eu, lu⟩ := prem_nat n 5 (by omega)
  have HPn : ∀ W, Calls Tryz.prog 11 #[.int .i64 n, .int .i64 5] W fun e w' => e = .returned (.int .i64 (u : Int)) ∧ W = w' := fun W => by have := place_any n 5 W (by omega) (by omega); rw [eu] at this; exact this
  have hu : u < 5 := by omega
  have HAW := Lib.hid docAwake
  clear eu lu
  have HSZ := Lib.hid (fun (k : Nat) (hk : k < 5) => (show (partsS true true true false k).length ≤ 300 from by
    have := p_rest_at true true true false hk
    unfold pRest at this
    simp only [Bool.and_eq_true, decide_eq_true_eq] at this
    exact this.2.2.2.2))
  go_enter Tryz.func6, Tryz.ntmps6
  go_wp2_with fail
  with_reducible refine (HPn _).mono ?_
  rintro e w' ⟨rfl, rfl⟩
  clear HPn
  go_wp2_with fail
  go_loopw [11, 13] (fun s i wr => ∃ (j : Nat) (S : ByteArray), s = .string S ∧ i = .int .i64 j ∧ j ≤ u ∧ S.size ≤ 320 ∧ Hid (S.data.toList = partsS true true true false j) ∧ Below w.heap.size w wr) (fun _ i _ => u - (intOf i).toNat)
  case atStart => exact ⟨0, _, rfl, rfl, by omega, by decide, Lib.hid (by kernel_rfl), Below.refl _ _⟩
  case round =>
    obtain ⟨j, S, rfl, rfl, hj, hz, HS, hb⟩ := hrel
    have hw : IntKind.i64.wrap ((j : Int) + 1) = (j : Int) + 1 := IntWalk.i64_in _ (by omega)
    have HB := Lib.hid hb
    by_cases hlt : j < u
    · have hd : decide ((j : Int) < (u : Int)) = true := decide_eq_true (by omega)
      have hd2 : decide (j < u) = true := decide_eq_true hlt
      have HDG := lawDigits_any 1 j wr (by omega) (by decide) (by decide)
      rw [dgs_one (show j < 5 by omega)] at HDG
      have HS2 := Lib.hid (show (((S ++ ⟨#[102, 114, 97, 103, 109, 101, 110, 116, 32, 70]⟩) ++ ⟨[48 + UInt8.ofNat j].toArray⟩) ++ ⟨#[32, 111, 110, 32, 84, 64, 100, 123, 97, 125]⟩ : ByteArray).data.toList = partsS true true true false (j + 1) by
        rw [ByteArray.data_append, Array.toList_append, ByteArray.data_append, Array.toList_append, ByteArray.data_append, Array.toList_append, HS.out, partsS_eq, partsS_eq]
        show _ = _ ++ (partsFr j ++ ([102, 114, 97, 103, 109, 101, 110, 116, 32, 70] ++ ((48 + UInt8.ofNat j) :: [32, 111, 110, 32, 84, 64, 100, 123, 97, 125])))
        simp [List.append_assoc])
      have hz1 : (S ++ ⟨#[102, 114, 97, 103, 109, 101, 110, 116, 32, 70]⟩ : ByteArray).size ≤ 340 := by rw [ByteArray.size_append]; show S.size + 10 ≤ _; omega
      have hzd : (⟨[48 + UInt8.ofNat j].toArray⟩ : ByteArray).size ≤ 1 := Nat.le_refl _
      have hz2 : ((S ++ ⟨#[102, 114, 97, 103, 109, 101, 110, 116, 32, 70]⟩) ++ ⟨[48 + UInt8.ofNat j].toArray⟩ : ByteArray).size ≤ 341 := by rw [ByteArray.size_append]; omega
      clear hb
      generalize (⟨[48 + UInt8.ofNat j].toArray⟩ : ByteArray) = DG at *
      go_wp2_with fail
      refine HDG.mono ?_
      rintro e w2 ⟨rfl, mm, rfl⟩
      go_wp2_with fail
      go_roundw
      case rel => exact ⟨j + 1, _, rfl, by go_num, by omega, Nat.le_trans (Nat.le_of_eq (congrArg List.length HS2.out)) (by have := HSZ.out (j + 1) (by omega); omega), HS2, below_drewN HB.out _⟩
      case measure => simp [intOf]; omega
    · have hd : decide ((j : Int) < (u : Int)) = false := decide_eq_false (by omega)
      have hd2 : decide (j < u) = false := decide_eq_false hlt
      obtain rfl : j = u := by omega
      have hok := p_rest_at true true true false hu
      have hops := p_ops true true true false hu
      unfold pRest at hok
      dsimp only at hok
      rw [← HS.out] at hok hops
      simp only [Bool.and_eq_true, beq_iff_eq, decide_eq_true_eq] at hok
      obtain ⟨q1, q2, q3, q4, q5⟩ := hok
      have HP := parse_any S wr (by omega) q1
      generalize parseM S.data.toList = R at *
      obtain ⟨⟨ops, fs⟩, at_, er⟩ := R
      dsimp only at q2 q3 q4 hops
      subst q2 q3 hops q4
      clear HS HSZ hb q1 q5 hz
      go_wp2_with fail
      refine HP.mono ?_
      rintro e w1 ⟨vo, vf, rfl, hdoc, b1⟩
      dsimp only at hdoc
      obtain ⟨g, off, cc, a3, c3, va, vc, da, dc, sg, so, sc, ya, yc, ⟨rfl, rfl, hcc, hsc, hg, hsg⟩, ⟨k0, k1, k2, k3, k4⟩, ⟨s1, s2, s6, t0⟩, hvars⟩ := parts_facts hdoc
      rw [show (if true = true then [vA1, vA2] else [] : List VarT).length = 2 from rfl] at k2
      rw [show (if true = true then [dA1, dA2] else [] : List DirT).length = 2 from rfl] at k3
      rw [show (⟨(if true = true then [78] else [] : List UInt8).toArray⟩ : ByteArray) = ⟨#[78]⟩ from rfl] at k1
      have hgl := hg.2
      have hsl := hsg.2
      have HB2 := Lib.hid ((HB.out.trans (b1.mono HB.out.size)).alloc (Nat.le_trans HB.out.size b1.size) (.cells #[.slice (some ⟨g, off, none⟩) 1 cc, .slice a3 fs.length c3] 25))
      clear hdoc b1 HP hg hsg
      obtain ⟨vg, vof, rfl, hvc, hvg, v2, v3, u3⟩ := hvars rfl
      have hvl := hvg.2
      clear hvg hvars
      go_wp2_with fail
      all_goals
        first
          | exact undef_no (by assumption)
          | (refine (HAW.out _).mono ?_
             rintro e w4 ⟨rfl, b4⟩
             go_wp2_with fail
             go_ret
             exact ⟨rfl, ((HB2.out.alloc HB2.out.size _).trans (b4.mono (HB2.out.alloc HB2.out.size _).size))⟩)

set_option maxHeartbeats 40000000 in
set_option maxRecDepth 100000 in
theorem parts_1111 (n : Int) (w : World) : Calls Tryz.prog 6 #[.bool true, .bool true, .bool true, .bool true, .int .i64 n] w (TrueBelow w) := by
  obtain ⟨u, eu, lu⟩ := prem_nat n 5 (by omega)
  have HPn : ∀ W, Calls Tryz.prog 11 #[.int .i64 n, .int .i64 5] W fun e w' => e = .returned (.int .i64 (u : Int)) ∧ W = w' := fun W => by have := place_any n 5 W (by omega) (by omega); rw [eu] at this; exact this
  have hu : u < 5 := by omega
  have HAW := Lib.hid docAwake
  clear eu lu
  have HSZ := Lib.hid (fun (k : Nat) (hk : k < 5) => (show (partsS true true true true k).length ≤ 300 from by
    have := p_rest_at true true true true hk
    unfold pRest at this
    simp only [Bool.and_eq_true, decide_eq_true_eq] at this
    exact this.2.2.2.2))
  go_enter Tryz.func6, Tryz.ntmps6
  go_wp2_with fail
  with_reducible refine (HPn _).mono ?_
  rintro e w' ⟨rfl, rfl⟩
  clear HPn
  go_wp2_with fail
  go_loopw [11, 13] (fun s i wr => ∃ (j : Nat) (S : ByteArray), s = .string S ∧ i = .int .i64 j ∧ j ≤ u ∧ S.size ≤ 320 ∧ Hid (S.data.toList = partsS true true true true j) ∧ Below w.heap.size w wr) (fun _ i _ => u - (intOf i).toNat)
  case atStart => exact ⟨0, _, rfl, rfl, by omega, by decide, Lib.hid (by kernel_rfl), Below.refl _ _⟩
  case round =>
    obtain ⟨j, S, rfl, rfl, hj, hz, HS, hb⟩ := hrel
    have hw : IntKind.i64.wrap ((j : Int) + 1) = (j : Int) + 1 := IntWalk.i64_in _ (by omega)
    have HB := Lib.hid hb
    by_cases hlt : j < u
    · have hd : decide ((j : Int) < (u : Int)) = true := decide_eq_true (by omega)
      have hd2 : decide (j < u) = true := decide_eq_true hlt
      have HDG := lawDigits_any 1 j wr (by omega) (by decide) (by decide)
      rw [dgs_one (show j < 5 by omega)] at HDG
      have HS2 := Lib.hid (show (((S ++ ⟨#[102, 114, 97, 103, 109, 101, 110, 116, 32, 70]⟩) ++ ⟨[48 + UInt8.ofNat j].toArray⟩) ++ ⟨#[32, 111, 110, 32, 84, 64, 100, 123, 97, 125]⟩ : ByteArray).data.toList = partsS true true true true (j + 1) by
        rw [ByteArray.data_append, Array.toList_append, ByteArray.data_append, Array.toList_append, ByteArray.data_append, Array.toList_append, HS.out, partsS_eq, partsS_eq]
        show _ = _ ++ (partsFr j ++ ([102, 114, 97, 103, 109, 101, 110, 116, 32, 70] ++ ((48 + UInt8.ofNat j) :: [32, 111, 110, 32, 84, 64, 100, 123, 97, 125])))
        simp [List.append_assoc])
      have hz1 : (S ++ ⟨#[102, 114, 97, 103, 109, 101, 110, 116, 32, 70]⟩ : ByteArray).size ≤ 340 := by rw [ByteArray.size_append]; show S.size + 10 ≤ _; omega
      have hzd : (⟨[48 + UInt8.ofNat j].toArray⟩ : ByteArray).size ≤ 1 := Nat.le_refl _
      have hz2 : ((S ++ ⟨#[102, 114, 97, 103, 109, 101, 110, 116, 32, 70]⟩) ++ ⟨[48 + UInt8.ofNat j].toArray⟩ : ByteArray).size ≤ 341 := by rw [ByteArray.size_append]; omega
      clear hb
      generalize (⟨[48 + UInt8.ofNat j].toArray⟩ : ByteArray) = DG at *
      go_wp2_with fail
      refine HDG.mono ?_
      rintro e w2 ⟨rfl, mm, rfl⟩
      go_wp2_with fail
      go_roundw
      case rel => exact ⟨j + 1, _, rfl, by go_num, by omega, Nat.le_trans (Nat.le_of_eq (congrArg List.length HS2.out)) (by have := HSZ.out (j + 1) (by omega); omega), HS2, below_drewN HB.out _⟩
      case measure => simp [intOf]; omega
    · have hd : decide ((j : Int) < (u : Int)) = false := decide_eq_false (by omega)
      have hd2 : decide (j < u) = false := decide_eq_false hlt
      obtain rfl : j = u := by omega
      have hok := p_rest_at true true true true hu
      have hops := p_ops true true true true hu
      unfold pRest at hok
      dsimp only at hok
      rw [← HS.out] at hok hops
      simp only [Bool.and_eq_true, beq_iff_eq, decide_eq_true_eq] at hok
      obtain ⟨q1, q2, q3, q4, q5⟩ := hok
      have HP := parse_any S wr (by omega) q1
      generalize parseM S.data.toList = R at *
      obtain ⟨⟨ops, fs⟩, at_, er⟩ := R
      dsimp only at q2 q3 q4 hops
      subst q2 q3 hops q4
      clear HS HSZ hb q1 q5 hz
      go_wp2_with fail
      refine HP.mono ?_
      rintro e w1 ⟨vo, vf, rfl, hdoc, b1⟩
      dsimp only at hdoc
      obtain ⟨g, off, cc, a3, c3, va, vc, da, dc, sg, so, sc, ya, yc, ⟨rfl, rfl, hcc, hsc, hg, hsg⟩, ⟨k0, k1, k2, k3, k4⟩, ⟨s1, s2, s6, t0⟩, hvars⟩ := parts_facts hdoc
      rw [show (if true = true then [vA1, vA2] else [] : List VarT).length = 2 from rfl] at k2
      rw [show (if true = true then [dA1, dA2] else [] : List DirT).length = 2 from rfl] at k3
      rw [show (⟨(if true = true then [78] else [] : List UInt8).toArray⟩ : ByteArray) = ⟨#[78]⟩ from rfl] at k1
      have hgl := hg.2
      have hsl := hsg.2
      have HB2 := Lib.hid ((HB.out.trans (b1.mono HB.out.size)).alloc (Nat.le_trans HB.out.size b1.size) (.cells #[.slice (some ⟨g, off, none⟩) 1 cc, .slice a3 fs.length c3] 25))
      clear hdoc b1 HP hg hsg
      obtain ⟨vg, vof, rfl, hvc, hvg, v2, v3, u3⟩ := hvars rfl
      have hvl := hvg.2
      clear hvg hvars
      go_wp2_with fail
      all_goals
        first
          | exact undef_no (by assumption)
          | (refine (HAW.out _).mono ?_
             rintro e w4 ⟨rfl, b4⟩
             go_wp2_with fail
             go_ret
             exact ⟨rfl, ((HB2.out.alloc HB2.out.size _).trans (b4.mono (HB2.out.alloc HB2.out.size _).size))⟩)

end Go.Proofs.YtibkncgfdhflgaaGreatDoor
