/-
  JreadDeep: its walk.
-/
import Derived.Test.YtbcenaljaoejkaaDoorJd2
namespace Go.Proofs.YtbcenaljaoejkaaDoor
open Go.RowKit

theorem rep_app (l : List UInt8) (b : UInt8) : (⟨l.toArray⟩ : ByteArray) ++ ⟨#[b]⟩ = ⟨(l ++ [b]).toArray⟩ := app_one l b

set_option maxHeartbeats 8000000 in
set_option maxRecDepth 100000 in
theorem jreadDeep_walk (n how : Int) (w : World) : Calls Tryd.prog 5 #[.int .i64 n, .int .i64 how] w (TrueBelow w) := by
  obtain ⟨u, eu, lu⟩ := rem_nat2 n 20 (by omega)
  obtain ⟨v, ev, lv⟩ := rem_nat2 how 5 (by omega)
  have HPn : ∀ W, Calls Tryd.prog 13 #[.int .i64 n, .int .i64 20] W fun e w' => e = .returned (.int .i64 (u : Int)) ∧ W = w' := fun W => by have := place_any n 20 W (by omega) (by omega); rw [eu] at this; exact this
  have HPh : ∀ W, Calls Tryd.prog 13 #[.int .i64 how, .int .i64 5] W fun e w' => e = .returned (.int .i64 (v : Int)) ∧ W = w' := fun W => by have := place_any how 5 W (by omega) (by omega); rw [ev] at this; exact this
  have hu : u < 20 := by omega
  have hv : v < 5 := by omega
  clear eu ev lu lv
  have HPH := Lib.hid HPh
  clear HPh
  go_enter Tryd.func5, Tryd.ntmps5
  go_wp2_with fail
  with_reducible refine (HPn _).mono ?_
  rintro e w' ⟨rfl, rfl⟩
  clear HPn
  go_wp2_with fail
  go_loop [6, 7] (fun s i => ∃ (j : Nat) (S : ByteArray), j ≤ u + 1 ∧ s = .string S ∧ i = .int .i64 j ∧ Hid (S = ⟨(rep j 91).toArray⟩) ∧ S.size ≤ 50) (fun _ i => u + 1 - (intOf i).toNat)
  case atStart => exact ⟨0, ⟨#[]⟩, by omega, rfl, rfl, Lib.hid rfl, by decide⟩
  case round =>
    obtain ⟨j, S, hj, rfl, rfl, HS, hS⟩ := hrel
    by_cases hlt : j < u + 1
    · have hd : decide ((j : Int) < 1 + u) = true := decide_eq_true (by omega)
      go_wp2_with fail
      go_round
      case rel => exact ⟨j + 1, _, by omega, rfl, by go_num, Lib.hid (by rw [HS.out, rep_app, rep_snoc]), by rw [HS.out, rep_app, rep_snoc]; show (rep (j + 1) 91).length ≤ 50; rw [rep_len]; omega⟩
      case measure => simp [intOf]; omega
    · have hd : decide ((j : Int) < 1 + u) = false := decide_eq_false (by omega)
      have hju : j = u + 1 := by omega
      have HS1 : Hid (S = ⟨(rep (u + 1) 91).toArray⟩) := Lib.hid (by rw [HS.out, hju])
      clear hju HS
      go_wp2_with fail
      go_loop [6, 8] (fun s i => ∃ (j : Nat) (T : ByteArray), j ≤ u + 1 ∧ s = .string T ∧ i = .int .i64 j ∧ Hid (T = ⟨(rep (u + 1) 91 ++ rep j 93).toArray⟩) ∧ T.size ≤ 50) (fun _ i => u + 1 - (intOf i).toNat)
      case atStart => exact ⟨0, S, by omega, rfl, rfl, Lib.hid (by rw [HS1.out]; show _ = (⟨(rep (u + 1) 91 ++ []).toArray⟩ : ByteArray); rw [List.append_nil]), hS⟩
      case round =>
        obtain ⟨i, T, hi, rfl, rfl, HT, hT⟩ := hrel
        by_cases hlt2 : i < u + 1
        · have hd2 : decide ((i : Int) < 1 + u) = true := decide_eq_true (by omega)
          go_wp2_with fail
          go_round
          case rel => exact ⟨i + 1, _, by omega, rfl, by go_num, Lib.hid (by rw [HT.out, rep_app, List.append_assoc, rep_snoc]), by rw [HT.out, rep_app, List.append_assoc, rep_snoc]; show (rep (u + 1) 91 ++ rep (i + 1) 93).length ≤ 50; rw [List.length_append, rep_len, rep_len]; omega⟩
          case measure => simp [intOf]; omega
        · have hd2 : decide ((i : Int) < 1 + u) = false := decide_eq_false (by omega)
          have hiu : i = u + 1 := by omega
          have hN : Nest u T := by
            have e : T = ⟨(rep (u + 1) 91 ++ rep (u + 1) 93).toArray⟩ := by rw [HT.out, hiu]
            refine ⟨by rw [e], by rw [e]; show (rep (u + 1) 91 ++ rep (u + 1) 93).length = _; rw [List.length_append, rep_len, rep_len]; omega⟩
          obtain ⟨E, hE⟩ : ∃ E : Nat, E = if u < 12 then 0 else 4 := ⟨_, rfl⟩
          have HR1 : ∀ W, _ := fun W => read_code (s := T) (c := E) (by
            obtain ⟨o, h1, _⟩ := read_nest u hu
            rw [hN.list, h1, hE]) W
          have hTs := hN.size
          obtain ⟨F, hF⟩ : ∃ F : Nat, F = if u < 11 then 5 else 4 := ⟨_, rfl⟩
          have HR2 : ∀ W, _ := fun W => read_code (s := (T.extract 0 u ++ objS) ++ T.extract (u + 2) T.size) (c := F) (by
            rw [nest_text hN, read_nest2 u hu, hF]) W
          have s1 := slice_to T u (by omega)
          have s2 := slice_from' T (u + 2) (1 + (u : Int) + 1) (by omega) (by omega)
          have q1 : IntKind.i64.wrap (1 + (u : Int) - 1) = (u : Int) := by rw [show 1 + (u : Int) - 1 = u by omega]; exact IntWalk.i64_in _ (by omega)
          have q2 : IntKind.i64.wrap (1 + (u : Int) + 1) = 1 + (u : Int) + 1 := IntWalk.i64_in _ (by omega)
          have z1 : (T.extract 0 u).size ≤ 50 := by simp; omega
          have z2 : (T.extract 0 u ++ objS).size ≤ 100 := by rw [ByteArray.size_append]; show _ + 13 ≤ _; omega
          have z3 : (T.extract (u + 2) T.size).size ≤ 50 := by simp; omega
          have HE := Lib.hid hE
          have HF := Lib.hid hF
          clear hN HT hE hF hiu hTs HS1
          generalize T.extract 0 u = T1 at *
          generalize T.extract (u + 2) T.size = T2 at *
          go_wp2_with fail
          refine (HR1 _).mono ?_
          rintro e w1 ⟨b1, k1, y1, a1, n1, c1, a1', n1', c1', rfl⟩
          clear HR1
          have hz1 := b1.size
          go_wp2_with fail
          go_quiet (fail)
          go_wp2_with fail
          refine (HR2 _).mono ?_
          rintro e w2 ⟨b2, k2, y2, a2, n2, c2, a2', n2', c2', rfl⟩
          have bc1 : Below w.heap.size w (w1.alloc (.cells #[.int .i64 k1, .string y1, .slice a1 n1 c1, .slice a1' n1' c1'] 26)) := b1.alloc hz1 _
          have bc2 : Below w.heap.size w w2 := bc1.trans ⟨b2.os, b2.tape, b2.output, b2.size, fun k hk => b2.block k (Nat.lt_of_lt_of_le hk bc1.size)⟩
          have hz2 := bc2.size
          clear HR2 b1 b2 bc1
          obtain ⟨M, hM⟩ : ∃ M, M = 3998 + v := ⟨_, rfl⟩
          have hM1 : 3998 ≤ M := by omega
          have hM2 : M ≤ 4002 := by omega
          have hmk : ∀ W : World, (Instr.makeSlice 39 (.int .i64 (3998 + (v : Int))) (.int .i64 (3998 + (v : Int)))).run Tryd.prog W = .ok (.slice (some ⟨W.heap.size, 0, none⟩) M M) (W.alloc (.cells (madeCells #[.int .u8 0] M) 5)) := fun W => by
            have := run_make_row' (P := Tryd.prog) 39 5 (.int .u8 0) 1 Tryd.underlying39 infoU8 rfl .i64 .i64 M (by omega) (by omega) W
            rw [show ((M : Nat) : Int) = 3998 + (v : Int) by omega] at this
            exact this
          obtain ⟨C, hC⟩ : ∃ C : Nat, C = if M - 1 < 4000 then 0 else 3 := ⟨_, rfl⟩
          have HR3 := Lib.hid (fun W => read_code (s := ⟨(53 :: rep (M - 1) 32).toArray⟩) (c := C) (by
            show (readP (53 :: rep (M - 1) 32)).2 = C
            rw [read_blanks (M - 1) (by omega), hC]
            split <;> rfl) W)
          have HC := Lib.hid hC
          have HM := Lib.hid hM
          clear hC hM
          by_cases hu11 : u < 11
          · obtain rfl : F = 5 := by rw [HF.out]; exact if_pos (by omega)
            have hq : decide ((12 : Int) ≤ 1 + u) = false := decide_eq_false (by omega)
            go_wp2_with fail
            with_reducible refine (HPH.out _).mono ?_
            rintro e w' ⟨rfl, rfl⟩
            have hG : (w2.alloc (.cells #[.int .i64 k2, .string y2, .slice a2 n2 c2, .slice a2' n2' c2'] 26)).heap.size = w2.heap.size + 1 := by simp
            have bm : Below w.heap.size w ((w2.alloc (.cells #[.int .i64 k2, .string y2, .slice a2 n2 c2, .slice a2' n2' c2'] 26)).alloc (.cells (madeCells #[.int .u8 0] M) 5)) := (bc2.alloc hz2 _).alloc (by rw [hG]; omega) _
            have rm : ((w2.alloc (.cells #[.int .i64 k2, .string y2, .slice a2 n2 c2, .slice a2' n2' c2'] 26)).alloc (.cells (madeCells #[.int .u8 0] M) 5)).rowIs (w2.heap.size + 1) 5 M (blk 0) := by
              have := World.rowIs_made (w2.alloc (.cells #[.int .i64 k2, .string y2, .slice a2 n2 c2, .slice a2' n2' c2'] 26)) (.int .u8 0) M 5
              rw [hG] at this
              exact this.congr fun j _ => by simp [blk]
            have BM := Lib.hid bm
            have RM := Lib.hid rm
            clear bm rm hG
            go_wp2_with fail
            go_loopw [17] (fun i wr => ∃ j : Nat, j ≤ M ∧ i = .int .i64 j ∧ wr.rowIs (w2.heap.size + 1) 5 M (blk j) ∧ Below w.heap.size w wr) (fun i _ => M - (intOf i).toNat)
            case atStart => exact ⟨0, Nat.zero_le _, rfl, RM.out, BM.out⟩
            case round =>
              clear BM RM
              obtain ⟨j, hj, rfl, hrow, hbw⟩ := hrel
              by_cases hlt3 : j < M
              · have g1 : wr.cell? ⟨w2.heap.size + 1, j, none⟩ = some (.int .u8 0) := by rw [hrow.cell hlt3]; simp [blk]
                have g2 := hrow.frozen j
                have hrow2 : (wr.setCell ⟨w2.heap.size + 1, j, none⟩ (.int .u8 32)).rowIs (w2.heap.size + 1) 5 M (blk (j + 1)) := (hrow.set j (.int .u8 32)).congr fun i _ => by
                  by_cases h1 : i = j
                  · subst h1; simp [blk]
                  · by_cases h2 : i < j
                    · have h3 : i < j + 1 := by omega
                      simp [blk, h1, h2, h3]
                    · have h3 : ¬ i < j + 1 := by omega
                      simp [blk, h1, h2, h3]
                have HRW := Lib.hid hrow2
                have hd3 : decide ((j : Int) < (M : Int)) = true := decide_eq_true (by omega)
                clear hrow hrow2
                go_wp2_with fail
                go_roundw
                case rel => exact ⟨j + 1, by omega, by go_num, HRW.out, hbw.setCell (p := ⟨w2.heap.size + 1, j, none⟩) (by show w.heap.size ≤ w2.heap.size + 1; omega) _⟩
                case measure => simp [intOf]; omega
              · have hjM : j = M := by omega
                have hd3 : decide ((j : Int) < (M : Int)) = false := decide_eq_false (by omega)
                have hrow' : wr.rowIs (w2.heap.size + 1) 5 M (blk M) := by have h := hrow; rw [hjM] at h; exact h
                have g1 : wr.cell? ⟨w2.heap.size + 1, 0, none⟩ = some (.int .u8 32) := by rw [hrow'.cell (by omega)]; simp [blk]; omega
                have g2 := hrow'.frozen 0
                have hcv := blanks_text (by omega) (hrow'.set 0 (.int .u8 53))
                have hb5 : Below w.heap.size w (wr.setCell ⟨w2.heap.size + 1, 0, none⟩ (.int .u8 53)) := hbw.setCell (p := ⟨w2.heap.size + 1, 0, none⟩) (by show w.heap.size ≤ w2.heap.size + 1; omega) _
                have h0M : (0 : Int) < (M : Int) := by omega
                clear hrow hrow' hjM
                go_wp2_with fail
                refine (HR3.out _).mono ?_
                rintro e w6 ⟨b6, k6, y6, a6, n6, c6, a6', n6', c6', rfl⟩
                have bc6 : Below w.heap.size w w6 := hb5.trans (b6.mono hb5.size)
                have hz6 := bc6.size
                clear b6 hcv g1 g2 hbw hb5
                obtain rfl : E = 0 := by rw [HE.out]; exact if_pos (by omega)
                have hle : decide (1 + (u : Int) ≤ 12) = true := decide_eq_true (by omega)
                by_cases hM4 : M ≤ 4000
                · obtain rfl : C = 0 := by rw [HC.out]; exact if_pos (by omega)
                  have hme : decide (3998 + (v : Int) ≤ 4000) = true := decide_eq_true (by have := HM.out; omega)
                  go_wp2_with ((go_at_call 7); (with_reducible refine (awake_true _).mono ?_); rintro e w7 ⟨rfl, b7⟩)
                  go_ret
                  exact ⟨rfl, (bc6.alloc hz6 _).trans (b7.mono (by simp; omega))⟩
                · obtain rfl : C = 3 := by rw [HC.out]; exact if_neg (by omega)
                  have hme : decide (3998 + (v : Int) ≤ 4000) = false := decide_eq_false (by have := HM.out; omega)
                  go_wp2_with ((go_at_call 7); (with_reducible refine (awake_true _).mono ?_); rintro e w7 ⟨rfl, b7⟩)
                  go_ret
                  exact ⟨rfl, (bc6.alloc hz6 _).trans (b7.mono (by simp; omega))⟩
          · obtain rfl : F = 4 := by rw [HF.out]; exact if_neg (by omega)
            have hq : decide ((12 : Int) ≤ 1 + u) = true := decide_eq_true (by omega)
            go_wp2_with fail
            with_reducible refine (HPH.out _).mono ?_
            rintro e w' ⟨rfl, rfl⟩
            have hG : (w2.alloc (.cells #[.int .i64 k2, .string y2, .slice a2 n2 c2, .slice a2' n2' c2'] 26)).heap.size = w2.heap.size + 1 := by simp
            have bm : Below w.heap.size w ((w2.alloc (.cells #[.int .i64 k2, .string y2, .slice a2 n2 c2, .slice a2' n2' c2'] 26)).alloc (.cells (madeCells #[.int .u8 0] M) 5)) := (bc2.alloc hz2 _).alloc (by rw [hG]; omega) _
            have rm : ((w2.alloc (.cells #[.int .i64 k2, .string y2, .slice a2 n2 c2, .slice a2' n2' c2'] 26)).alloc (.cells (madeCells #[.int .u8 0] M) 5)).rowIs (w2.heap.size + 1) 5 M (blk 0) := by
              have := World.rowIs_made (w2.alloc (.cells #[.int .i64 k2, .string y2, .slice a2 n2 c2, .slice a2' n2' c2'] 26)) (.int .u8 0) M 5
              rw [hG] at this
              exact this.congr fun j _ => by simp [blk]
            have BM := Lib.hid bm
            have RM := Lib.hid rm
            clear bm rm hG
            go_wp2_with fail
            go_loopw [17] (fun i wr => ∃ j : Nat, j ≤ M ∧ i = .int .i64 j ∧ wr.rowIs (w2.heap.size + 1) 5 M (blk j) ∧ Below w.heap.size w wr) (fun i _ => M - (intOf i).toNat)
            case atStart => exact ⟨0, Nat.zero_le _, rfl, RM.out, BM.out⟩
            case round =>
              clear BM RM
              obtain ⟨j, hj, rfl, hrow, hbw⟩ := hrel
              by_cases hlt3 : j < M
              · have g1 : wr.cell? ⟨w2.heap.size + 1, j, none⟩ = some (.int .u8 0) := by rw [hrow.cell hlt3]; simp [blk]
                have g2 := hrow.frozen j
                have hrow2 : (wr.setCell ⟨w2.heap.size + 1, j, none⟩ (.int .u8 32)).rowIs (w2.heap.size + 1) 5 M (blk (j + 1)) := (hrow.set j (.int .u8 32)).congr fun i _ => by
                  by_cases h1 : i = j
                  · subst h1; simp [blk]
                  · by_cases h2 : i < j
                    · have h3 : i < j + 1 := by omega
                      simp [blk, h1, h2, h3]
                    · have h3 : ¬ i < j + 1 := by omega
                      simp [blk, h1, h2, h3]
                have HRW := Lib.hid hrow2
                have hd3 : decide ((j : Int) < (M : Int)) = true := decide_eq_true (by omega)
                clear hrow hrow2
                go_wp2_with fail
                go_roundw
                case rel => exact ⟨j + 1, by omega, by go_num, HRW.out, hbw.setCell (p := ⟨w2.heap.size + 1, j, none⟩) (by show w.heap.size ≤ w2.heap.size + 1; omega) _⟩
                case measure => simp [intOf]; omega
              · have hjM : j = M := by omega
                have hd3 : decide ((j : Int) < (M : Int)) = false := decide_eq_false (by omega)
                have hrow' : wr.rowIs (w2.heap.size + 1) 5 M (blk M) := by have h := hrow; rw [hjM] at h; exact h
                have g1 : wr.cell? ⟨w2.heap.size + 1, 0, none⟩ = some (.int .u8 32) := by rw [hrow'.cell (by omega)]; simp [blk]; omega
                have g2 := hrow'.frozen 0
                have hcv := blanks_text (by omega) (hrow'.set 0 (.int .u8 53))
                have hb5 : Below w.heap.size w (wr.setCell ⟨w2.heap.size + 1, 0, none⟩ (.int .u8 53)) := hbw.setCell (p := ⟨w2.heap.size + 1, 0, none⟩) (by show w.heap.size ≤ w2.heap.size + 1; omega) _
                have h0M : (0 : Int) < (M : Int) := by omega
                clear hrow hrow' hjM
                go_wp2_with fail
                refine (HR3.out _).mono ?_
                rintro e w6 ⟨b6, k6, y6, a6, n6, c6, a6', n6', c6', rfl⟩
                have bc6 : Below w.heap.size w w6 := hb5.trans (b6.mono hb5.size)
                have hz6 := bc6.size
                clear b6 hcv g1 g2 hbw hb5
                by_cases h12 : u < 12
                · obtain rfl : E = 0 := by rw [HE.out]; exact if_pos (by omega)
                  have hle : decide (1 + (u : Int) ≤ 12) = true := decide_eq_true (by omega)
                  by_cases hM4 : M ≤ 4000
                  · obtain rfl : C = 0 := by rw [HC.out]; exact if_pos (by omega)
                    have hme : decide (3998 + (v : Int) ≤ 4000) = true := decide_eq_true (by have := HM.out; omega)
                    go_wp2_with ((go_at_call 7); (with_reducible refine (awake_true _).mono ?_); rintro e w7 ⟨rfl, b7⟩)
                    go_ret
                    exact ⟨rfl, (bc6.alloc hz6 _).trans (b7.mono (by simp; omega))⟩
                  · obtain rfl : C = 3 := by rw [HC.out]; exact if_neg (by omega)
                    have hme : decide (3998 + (v : Int) ≤ 4000) = false := decide_eq_false (by have := HM.out; omega)
                    go_wp2_with ((go_at_call 7); (with_reducible refine (awake_true _).mono ?_); rintro e w7 ⟨rfl, b7⟩)
                    go_ret
                    exact ⟨rfl, (bc6.alloc hz6 _).trans (b7.mono (by simp; omega))⟩
                · obtain rfl : E = 4 := by rw [HE.out]; exact if_neg (by omega)
                  have hle : decide (1 + (u : Int) ≤ 12) = false := decide_eq_false (by omega)
                  by_cases hM4 : M ≤ 4000
                  · obtain rfl : C = 0 := by rw [HC.out]; exact if_pos (by omega)
                    have hme : decide (3998 + (v : Int) ≤ 4000) = true := decide_eq_true (by have := HM.out; omega)
                    go_wp2_with ((go_at_call 7); (with_reducible refine (awake_true _).mono ?_); rintro e w7 ⟨rfl, b7⟩)
                    go_ret
                    exact ⟨rfl, (bc6.alloc hz6 _).trans (b7.mono (by simp; omega))⟩
                  · obtain rfl : C = 3 := by rw [HC.out]; exact if_neg (by omega)
                    have hme : decide (3998 + (v : Int) ≤ 4000) = false := decide_eq_false (by have := HM.out; omega)
                    go_wp2_with ((go_at_call 7); (with_reducible refine (awake_true _).mono ?_); rintro e w7 ⟨rfl, b7⟩)
                    go_ret
                    exact ⟨rfl, (bc6.alloc hz6 _).trans (b7.mono (by simp; omega))⟩

end Go.Proofs.YtbcenaljaoejkaaDoor
