/-
  SdlWrong: its walk.
-/
import Derived.Test.YtkahnlgedacppaaGreatDoorMSw0
import Derived.Test.YtkahnlgedacppaaGreatDoorMKa2
import Derived.Test.YtkahnlgedacppaaGreatDoorRows
import Derived.Stop.LaidErr
import Derived.LaidSub
import Derived.RowKitTokens
import Derived.Test.YtkahnlgedacppaaGreatDoorMLx3
import Derived.ProofKit
import Derived.OpenShut
import Derived.LaidByText
namespace Go.Proofs.YtkahnlgedacppaaGreatDoor
open Go.RowKit

theorem EvOk.below {w w' : World} (h : Below w.heap.size w w') (e : EvOk w) : EvOk w' := EvOk.keep w w' (fun b hb => by
  obtain ⟨ev, hc, _⟩ := e
  exact h.block b (Nat.lt_of_lt_of_le hb (cell_lt hc))) e
theorem srem_nat (v n : Int) (hn : 0 < n) : ∃ u : Nat, v % n = (u : Int) ∧ (u : Int) < n := ⟨(v % n).toNat, by have := Int.emod_nonneg v (show n ≠ 0 by omega); omega, by have := Int.emod_lt_of_pos v hn; have := Int.emod_nonneg v (show n ≠ 0 by omega); omega⟩
theorem dgs1_len (j : Nat) : (dgs 1 j).length ≤ 1 := dgs_len 1 j
theorem ahS_len : ∀ j, (ahS j).length ≤ 10 * j
  | 0 => Nat.le_refl _
  | j + 1 => by
    have := ahS_len j
    have h1 := dgs1_len j
    show (ahS j ++ scS ++ dgs 1 j ++ [10]).length ≤ _
    rw [List.length_append, List.length_append, List.length_append]
    show _ + 8 + _ + 1 ≤ _
    omega

theorem sw_ix0 (W : World) : (Instr.index 59 (.agg #[.string ⟨#[116, 121, 112, 101, 32, 84, 123, 125]⟩, .string ⟨#[116, 121, 112, 101, 32, 84, 123, 97, 125]⟩, .string ⟨#[116, 121, 112, 101, 32, 84, 123, 97, 58, 73, 110, 116, 64, 99, 111, 115, 116, 125]⟩, .string ⟨#[116, 121, 112, 101, 32, 84, 123, 97, 58, 73, 110, 116, 64, 111, 116, 104, 101, 114, 40, 110, 58, 49, 41, 125]⟩, .string ⟨#[117, 110, 105, 111, 110, 32, 85]⟩, .string ⟨#[101, 110, 117, 109, 32, 69, 123, 125]⟩, .string ⟨#[105, 110, 112, 117, 116, 32, 73, 123, 97, 58, 73, 110, 116, 61, 36, 118, 125]⟩, .string ⟨#[104, 111, 112]⟩, .string ⟨#[115, 99, 104, 101, 109, 97, 123, 109, 117, 116, 97, 116, 105, 111, 110, 58, 77, 125]⟩, .string ⟨#[116, 121, 112, 101, 32, 84, 123, 97, 40, 41, 58, 73, 110, 116, 125]⟩]) (.int .i64 ((0 : Nat) : Int))).run Tryz.prog W = .ok (.string ⟨#[116, 121, 112, 101, 32, 84, 123, 125]⟩) W := by kernel_rfl
theorem sw_ib0 (W : World) : (Instr.index 60 (.agg #[.int .i64 7, .int .i64 8, .int .i64 17, .int .i64 13, .int .i64 7, .int .i64 7, .int .i64 14, .int .i64 0, .int .i64 7, .int .i64 9]) (.int .i64 ((0 : Nat) : Int))).run Tryz.prog W = .ok (.int .i64 ((7 : Nat) : Int)) W := by kernel_rfl
theorem sw_ix1 (W : World) : (Instr.index 59 (.agg #[.string ⟨#[116, 121, 112, 101, 32, 84, 123, 125]⟩, .string ⟨#[116, 121, 112, 101, 32, 84, 123, 97, 125]⟩, .string ⟨#[116, 121, 112, 101, 32, 84, 123, 97, 58, 73, 110, 116, 64, 99, 111, 115, 116, 125]⟩, .string ⟨#[116, 121, 112, 101, 32, 84, 123, 97, 58, 73, 110, 116, 64, 111, 116, 104, 101, 114, 40, 110, 58, 49, 41, 125]⟩, .string ⟨#[117, 110, 105, 111, 110, 32, 85]⟩, .string ⟨#[101, 110, 117, 109, 32, 69, 123, 125]⟩, .string ⟨#[105, 110, 112, 117, 116, 32, 73, 123, 97, 58, 73, 110, 116, 61, 36, 118, 125]⟩, .string ⟨#[104, 111, 112]⟩, .string ⟨#[115, 99, 104, 101, 109, 97, 123, 109, 117, 116, 97, 116, 105, 111, 110, 58, 77, 125]⟩, .string ⟨#[116, 121, 112, 101, 32, 84, 123, 97, 40, 41, 58, 73, 110, 116, 125]⟩]) (.int .i64 ((1 : Nat) : Int))).run Tryz.prog W = .ok (.string ⟨#[116, 121, 112, 101, 32, 84, 123, 97, 125]⟩) W := by kernel_rfl
theorem sw_ib1 (W : World) : (Instr.index 60 (.agg #[.int .i64 7, .int .i64 8, .int .i64 17, .int .i64 13, .int .i64 7, .int .i64 7, .int .i64 14, .int .i64 0, .int .i64 7, .int .i64 9]) (.int .i64 ((1 : Nat) : Int))).run Tryz.prog W = .ok (.int .i64 ((8 : Nat) : Int)) W := by kernel_rfl
theorem sw_ix2 (W : World) : (Instr.index 59 (.agg #[.string ⟨#[116, 121, 112, 101, 32, 84, 123, 125]⟩, .string ⟨#[116, 121, 112, 101, 32, 84, 123, 97, 125]⟩, .string ⟨#[116, 121, 112, 101, 32, 84, 123, 97, 58, 73, 110, 116, 64, 99, 111, 115, 116, 125]⟩, .string ⟨#[116, 121, 112, 101, 32, 84, 123, 97, 58, 73, 110, 116, 64, 111, 116, 104, 101, 114, 40, 110, 58, 49, 41, 125]⟩, .string ⟨#[117, 110, 105, 111, 110, 32, 85]⟩, .string ⟨#[101, 110, 117, 109, 32, 69, 123, 125]⟩, .string ⟨#[105, 110, 112, 117, 116, 32, 73, 123, 97, 58, 73, 110, 116, 61, 36, 118, 125]⟩, .string ⟨#[104, 111, 112]⟩, .string ⟨#[115, 99, 104, 101, 109, 97, 123, 109, 117, 116, 97, 116, 105, 111, 110, 58, 77, 125]⟩, .string ⟨#[116, 121, 112, 101, 32, 84, 123, 97, 40, 41, 58, 73, 110, 116, 125]⟩]) (.int .i64 ((2 : Nat) : Int))).run Tryz.prog W = .ok (.string ⟨#[116, 121, 112, 101, 32, 84, 123, 97, 58, 73, 110, 116, 64, 99, 111, 115, 116, 125]⟩) W := by kernel_rfl
theorem sw_ib2 (W : World) : (Instr.index 60 (.agg #[.int .i64 7, .int .i64 8, .int .i64 17, .int .i64 13, .int .i64 7, .int .i64 7, .int .i64 14, .int .i64 0, .int .i64 7, .int .i64 9]) (.int .i64 ((2 : Nat) : Int))).run Tryz.prog W = .ok (.int .i64 ((17 : Nat) : Int)) W := by kernel_rfl
theorem sw_ix3 (W : World) : (Instr.index 59 (.agg #[.string ⟨#[116, 121, 112, 101, 32, 84, 123, 125]⟩, .string ⟨#[116, 121, 112, 101, 32, 84, 123, 97, 125]⟩, .string ⟨#[116, 121, 112, 101, 32, 84, 123, 97, 58, 73, 110, 116, 64, 99, 111, 115, 116, 125]⟩, .string ⟨#[116, 121, 112, 101, 32, 84, 123, 97, 58, 73, 110, 116, 64, 111, 116, 104, 101, 114, 40, 110, 58, 49, 41, 125]⟩, .string ⟨#[117, 110, 105, 111, 110, 32, 85]⟩, .string ⟨#[101, 110, 117, 109, 32, 69, 123, 125]⟩, .string ⟨#[105, 110, 112, 117, 116, 32, 73, 123, 97, 58, 73, 110, 116, 61, 36, 118, 125]⟩, .string ⟨#[104, 111, 112]⟩, .string ⟨#[115, 99, 104, 101, 109, 97, 123, 109, 117, 116, 97, 116, 105, 111, 110, 58, 77, 125]⟩, .string ⟨#[116, 121, 112, 101, 32, 84, 123, 97, 40, 41, 58, 73, 110, 116, 125]⟩]) (.int .i64 ((3 : Nat) : Int))).run Tryz.prog W = .ok (.string ⟨#[116, 121, 112, 101, 32, 84, 123, 97, 58, 73, 110, 116, 64, 111, 116, 104, 101, 114, 40, 110, 58, 49, 41, 125]⟩) W := by kernel_rfl
theorem sw_ib3 (W : World) : (Instr.index 60 (.agg #[.int .i64 7, .int .i64 8, .int .i64 17, .int .i64 13, .int .i64 7, .int .i64 7, .int .i64 14, .int .i64 0, .int .i64 7, .int .i64 9]) (.int .i64 ((3 : Nat) : Int))).run Tryz.prog W = .ok (.int .i64 ((13 : Nat) : Int)) W := by kernel_rfl
theorem sw_ix4 (W : World) : (Instr.index 59 (.agg #[.string ⟨#[116, 121, 112, 101, 32, 84, 123, 125]⟩, .string ⟨#[116, 121, 112, 101, 32, 84, 123, 97, 125]⟩, .string ⟨#[116, 121, 112, 101, 32, 84, 123, 97, 58, 73, 110, 116, 64, 99, 111, 115, 116, 125]⟩, .string ⟨#[116, 121, 112, 101, 32, 84, 123, 97, 58, 73, 110, 116, 64, 111, 116, 104, 101, 114, 40, 110, 58, 49, 41, 125]⟩, .string ⟨#[117, 110, 105, 111, 110, 32, 85]⟩, .string ⟨#[101, 110, 117, 109, 32, 69, 123, 125]⟩, .string ⟨#[105, 110, 112, 117, 116, 32, 73, 123, 97, 58, 73, 110, 116, 61, 36, 118, 125]⟩, .string ⟨#[104, 111, 112]⟩, .string ⟨#[115, 99, 104, 101, 109, 97, 123, 109, 117, 116, 97, 116, 105, 111, 110, 58, 77, 125]⟩, .string ⟨#[116, 121, 112, 101, 32, 84, 123, 97, 40, 41, 58, 73, 110, 116, 125]⟩]) (.int .i64 ((4 : Nat) : Int))).run Tryz.prog W = .ok (.string ⟨#[117, 110, 105, 111, 110, 32, 85]⟩) W := by kernel_rfl
theorem sw_ib4 (W : World) : (Instr.index 60 (.agg #[.int .i64 7, .int .i64 8, .int .i64 17, .int .i64 13, .int .i64 7, .int .i64 7, .int .i64 14, .int .i64 0, .int .i64 7, .int .i64 9]) (.int .i64 ((4 : Nat) : Int))).run Tryz.prog W = .ok (.int .i64 ((7 : Nat) : Int)) W := by kernel_rfl
theorem sw_ix5 (W : World) : (Instr.index 59 (.agg #[.string ⟨#[116, 121, 112, 101, 32, 84, 123, 125]⟩, .string ⟨#[116, 121, 112, 101, 32, 84, 123, 97, 125]⟩, .string ⟨#[116, 121, 112, 101, 32, 84, 123, 97, 58, 73, 110, 116, 64, 99, 111, 115, 116, 125]⟩, .string ⟨#[116, 121, 112, 101, 32, 84, 123, 97, 58, 73, 110, 116, 64, 111, 116, 104, 101, 114, 40, 110, 58, 49, 41, 125]⟩, .string ⟨#[117, 110, 105, 111, 110, 32, 85]⟩, .string ⟨#[101, 110, 117, 109, 32, 69, 123, 125]⟩, .string ⟨#[105, 110, 112, 117, 116, 32, 73, 123, 97, 58, 73, 110, 116, 61, 36, 118, 125]⟩, .string ⟨#[104, 111, 112]⟩, .string ⟨#[115, 99, 104, 101, 109, 97, 123, 109, 117, 116, 97, 116, 105, 111, 110, 58, 77, 125]⟩, .string ⟨#[116, 121, 112, 101, 32, 84, 123, 97, 40, 41, 58, 73, 110, 116, 125]⟩]) (.int .i64 ((5 : Nat) : Int))).run Tryz.prog W = .ok (.string ⟨#[101, 110, 117, 109, 32, 69, 123, 125]⟩) W := by kernel_rfl
theorem sw_ib5 (W : World) : (Instr.index 60 (.agg #[.int .i64 7, .int .i64 8, .int .i64 17, .int .i64 13, .int .i64 7, .int .i64 7, .int .i64 14, .int .i64 0, .int .i64 7, .int .i64 9]) (.int .i64 ((5 : Nat) : Int))).run Tryz.prog W = .ok (.int .i64 ((7 : Nat) : Int)) W := by kernel_rfl
theorem sw_ix6 (W : World) : (Instr.index 59 (.agg #[.string ⟨#[116, 121, 112, 101, 32, 84, 123, 125]⟩, .string ⟨#[116, 121, 112, 101, 32, 84, 123, 97, 125]⟩, .string ⟨#[116, 121, 112, 101, 32, 84, 123, 97, 58, 73, 110, 116, 64, 99, 111, 115, 116, 125]⟩, .string ⟨#[116, 121, 112, 101, 32, 84, 123, 97, 58, 73, 110, 116, 64, 111, 116, 104, 101, 114, 40, 110, 58, 49, 41, 125]⟩, .string ⟨#[117, 110, 105, 111, 110, 32, 85]⟩, .string ⟨#[101, 110, 117, 109, 32, 69, 123, 125]⟩, .string ⟨#[105, 110, 112, 117, 116, 32, 73, 123, 97, 58, 73, 110, 116, 61, 36, 118, 125]⟩, .string ⟨#[104, 111, 112]⟩, .string ⟨#[115, 99, 104, 101, 109, 97, 123, 109, 117, 116, 97, 116, 105, 111, 110, 58, 77, 125]⟩, .string ⟨#[116, 121, 112, 101, 32, 84, 123, 97, 40, 41, 58, 73, 110, 116, 125]⟩]) (.int .i64 ((6 : Nat) : Int))).run Tryz.prog W = .ok (.string ⟨#[105, 110, 112, 117, 116, 32, 73, 123, 97, 58, 73, 110, 116, 61, 36, 118, 125]⟩) W := by kernel_rfl
theorem sw_ib6 (W : World) : (Instr.index 60 (.agg #[.int .i64 7, .int .i64 8, .int .i64 17, .int .i64 13, .int .i64 7, .int .i64 7, .int .i64 14, .int .i64 0, .int .i64 7, .int .i64 9]) (.int .i64 ((6 : Nat) : Int))).run Tryz.prog W = .ok (.int .i64 ((14 : Nat) : Int)) W := by kernel_rfl
theorem sw_ix7 (W : World) : (Instr.index 59 (.agg #[.string ⟨#[116, 121, 112, 101, 32, 84, 123, 125]⟩, .string ⟨#[116, 121, 112, 101, 32, 84, 123, 97, 125]⟩, .string ⟨#[116, 121, 112, 101, 32, 84, 123, 97, 58, 73, 110, 116, 64, 99, 111, 115, 116, 125]⟩, .string ⟨#[116, 121, 112, 101, 32, 84, 123, 97, 58, 73, 110, 116, 64, 111, 116, 104, 101, 114, 40, 110, 58, 49, 41, 125]⟩, .string ⟨#[117, 110, 105, 111, 110, 32, 85]⟩, .string ⟨#[101, 110, 117, 109, 32, 69, 123, 125]⟩, .string ⟨#[105, 110, 112, 117, 116, 32, 73, 123, 97, 58, 73, 110, 116, 61, 36, 118, 125]⟩, .string ⟨#[104, 111, 112]⟩, .string ⟨#[115, 99, 104, 101, 109, 97, 123, 109, 117, 116, 97, 116, 105, 111, 110, 58, 77, 125]⟩, .string ⟨#[116, 121, 112, 101, 32, 84, 123, 97, 40, 41, 58, 73, 110, 116, 125]⟩]) (.int .i64 ((7 : Nat) : Int))).run Tryz.prog W = .ok (.string ⟨#[104, 111, 112]⟩) W := by kernel_rfl
theorem sw_ib7 (W : World) : (Instr.index 60 (.agg #[.int .i64 7, .int .i64 8, .int .i64 17, .int .i64 13, .int .i64 7, .int .i64 7, .int .i64 14, .int .i64 0, .int .i64 7, .int .i64 9]) (.int .i64 ((7 : Nat) : Int))).run Tryz.prog W = .ok (.int .i64 ((0 : Nat) : Int)) W := by kernel_rfl
theorem sw_ix8 (W : World) : (Instr.index 59 (.agg #[.string ⟨#[116, 121, 112, 101, 32, 84, 123, 125]⟩, .string ⟨#[116, 121, 112, 101, 32, 84, 123, 97, 125]⟩, .string ⟨#[116, 121, 112, 101, 32, 84, 123, 97, 58, 73, 110, 116, 64, 99, 111, 115, 116, 125]⟩, .string ⟨#[116, 121, 112, 101, 32, 84, 123, 97, 58, 73, 110, 116, 64, 111, 116, 104, 101, 114, 40, 110, 58, 49, 41, 125]⟩, .string ⟨#[117, 110, 105, 111, 110, 32, 85]⟩, .string ⟨#[101, 110, 117, 109, 32, 69, 123, 125]⟩, .string ⟨#[105, 110, 112, 117, 116, 32, 73, 123, 97, 58, 73, 110, 116, 61, 36, 118, 125]⟩, .string ⟨#[104, 111, 112]⟩, .string ⟨#[115, 99, 104, 101, 109, 97, 123, 109, 117, 116, 97, 116, 105, 111, 110, 58, 77, 125]⟩, .string ⟨#[116, 121, 112, 101, 32, 84, 123, 97, 40, 41, 58, 73, 110, 116, 125]⟩]) (.int .i64 ((8 : Nat) : Int))).run Tryz.prog W = .ok (.string ⟨#[115, 99, 104, 101, 109, 97, 123, 109, 117, 116, 97, 116, 105, 111, 110, 58, 77, 125]⟩) W := by kernel_rfl
theorem sw_ib8 (W : World) : (Instr.index 60 (.agg #[.int .i64 7, .int .i64 8, .int .i64 17, .int .i64 13, .int .i64 7, .int .i64 7, .int .i64 14, .int .i64 0, .int .i64 7, .int .i64 9]) (.int .i64 ((8 : Nat) : Int))).run Tryz.prog W = .ok (.int .i64 ((7 : Nat) : Int)) W := by kernel_rfl
theorem sw_ix9 (W : World) : (Instr.index 59 (.agg #[.string ⟨#[116, 121, 112, 101, 32, 84, 123, 125]⟩, .string ⟨#[116, 121, 112, 101, 32, 84, 123, 97, 125]⟩, .string ⟨#[116, 121, 112, 101, 32, 84, 123, 97, 58, 73, 110, 116, 64, 99, 111, 115, 116, 125]⟩, .string ⟨#[116, 121, 112, 101, 32, 84, 123, 97, 58, 73, 110, 116, 64, 111, 116, 104, 101, 114, 40, 110, 58, 49, 41, 125]⟩, .string ⟨#[117, 110, 105, 111, 110, 32, 85]⟩, .string ⟨#[101, 110, 117, 109, 32, 69, 123, 125]⟩, .string ⟨#[105, 110, 112, 117, 116, 32, 73, 123, 97, 58, 73, 110, 116, 61, 36, 118, 125]⟩, .string ⟨#[104, 111, 112]⟩, .string ⟨#[115, 99, 104, 101, 109, 97, 123, 109, 117, 116, 97, 116, 105, 111, 110, 58, 77, 125]⟩, .string ⟨#[116, 121, 112, 101, 32, 84, 123, 97, 40, 41, 58, 73, 110, 116, 125]⟩]) (.int .i64 ((9 : Nat) : Int))).run Tryz.prog W = .ok (.string ⟨#[116, 121, 112, 101, 32, 84, 123, 97, 40, 41, 58, 73, 110, 116, 125]⟩) W := by kernel_rfl
theorem sw_ib9 (W : World) : (Instr.index 60 (.agg #[.int .i64 7, .int .i64 8, .int .i64 17, .int .i64 13, .int .i64 7, .int .i64 7, .int .i64 14, .int .i64 0, .int .i64 7, .int .i64 9]) (.int .i64 ((9 : Nat) : Int))).run Tryz.prog W = .ok (.int .i64 ((9 : Nat) : Int)) W := by kernel_rfl

set_option maxHeartbeats 8000000 in
set_option maxRecDepth 100000 in
theorem sw_walk (how ahead : Int) (w : World) (hev : EvOk w) (p k bd : Nat) (x : ByteArray) (hp : p < 10) (hbd : bd ≤ 40) (hx : x.size ≤ 40)
    (HPn : ∀ W, Calls Tryz.prog 19 #[.int .i64 ahead, .int .i64 10] W fun e w' => e = .returned (.int .i64 (p : Int)) ∧ W = w')
    (HPm : ∀ W, Calls Tryz.prog 19 #[.int .i64 how, .int .i64 10] W fun e w' => e = .returned (.int .i64 (k : Int)) ∧ W = w')
    (hix : ∀ W, (Instr.index 59 (.agg #[.string ⟨#[116, 121, 112, 101, 32, 84, 123, 125]⟩, .string ⟨#[116, 121, 112, 101, 32, 84, 123, 97, 125]⟩, .string ⟨#[116, 121, 112, 101, 32, 84, 123, 97, 58, 73, 110, 116, 64, 99, 111, 115, 116, 125]⟩, .string ⟨#[116, 121, 112, 101, 32, 84, 123, 97, 58, 73, 110, 116, 64, 111, 116, 104, 101, 114, 40, 110, 58, 49, 41, 125]⟩, .string ⟨#[117, 110, 105, 111, 110, 32, 85]⟩, .string ⟨#[101, 110, 117, 109, 32, 69, 123, 125]⟩, .string ⟨#[105, 110, 112, 117, 116, 32, 73, 123, 97, 58, 73, 110, 116, 61, 36, 118, 125]⟩, .string ⟨#[104, 111, 112]⟩, .string ⟨#[115, 99, 104, 101, 109, 97, 123, 109, 117, 116, 97, 116, 105, 111, 110, 58, 77, 125]⟩, .string ⟨#[116, 121, 112, 101, 32, 84, 123, 97, 40, 41, 58, 73, 110, 116, 125]⟩]) (.int .i64 (k : Int))).run Tryz.prog W = .ok (.string x) W)
    (hib : ∀ W, (Instr.index 60 (.agg #[.int .i64 7, .int .i64 8, .int .i64 17, .int .i64 13, .int .i64 7, .int .i64 7, .int .i64 14, .int .i64 0, .int .i64 7, .int .i64 9]) (.int .i64 (k : Int))).run Tryz.prog W = .ok (.int .i64 (bd : Int)) W)
    (h1 : tokSmall (lexP (ahS p ++ x.data.toList)).1 = true) (h2 : intsOk (lexP (ahS p ++ x.data.toList)).1 = true)
    (h3 : (sparseM (ahS p ++ x.data.toList)).2.2 = 2) (h4 : (sparseM (ahS p ++ x.data.toList)).2.1 = (ahS p).length + bd) (h5 : (sparseM (ahS p ++ x.data.toList)).1.types = []) (h6 : (sparseM (ahS p ++ x.data.toList)).1.qu = []) :
    Calls Tryz.prog 8 #[.int .i64 how, .int .i64 ahead] w (TrueBelow w) := by
  have HEV := Lib.hid hev
  have HFA := Lib.hid (show _ ∧ _ ∧ _ ∧ _ ∧ _ ∧ _ from ⟨h1, h2, h3, h4, h5, h6⟩)
  clear h1 h2 h3 h4 h5 h6 hev
  go_enter Tryz.func8, Tryz.ntmps8
  go_wp2_with fail
  go_loopg [5, 6] p (fun q v5 v6 wr => ∃ (j : Nat) (S : ByteArray), v5 = .string S ∧ v6 = .int .i64 (j : Int) ∧ j ≤ p ∧ q = p - j ∧ Hid (S.data.toList = ahS j) ∧ Below w.heap.size w wr)
  case atStart => exact ⟨0, ⟨#[]⟩, rfl, rfl, Nat.zero_le _, rfl, Lib.hid rfl, Below.refl _ _⟩
  case round =>
    obtain ⟨j, S, rfl, rfl, hj, hq, HS, hb⟩ := hrel
    have HB := Lib.hid hb
    have hw : IntKind.i64.wrap ((j : Int) + 1) = (j : Int) + 1 := IntWalk.i64_in _ (by omega)
    have zS : S.size ≤ 100 := by
      have h1 := ahS_len j
      show S.data.toList.length ≤ 100
      rw [HS.out]; omega
    by_cases hlt : j < p
    · have hd : decide ((j : Int) < (p : Int)) = true := decide_eq_true (by omega)
      have hd2 : decide (j < p) = true := decide_eq_true hlt
      have HDG := lawDigits_any 1 j wr (by omega) (by decide) (by decide)
      have HS2 := Lib.hid (show (((S ++ ⟨#[115, 99, 97, 108, 97, 114, 32, 83]⟩) ++ ⟨(dgs 1 j).toArray⟩) ++ ⟨#[10]⟩ : ByteArray).data.toList = ahS (j + 1) by
        rw [ByteArray.data_append, Array.toList_append, ByteArray.data_append, Array.toList_append, ByteArray.data_append, Array.toList_append, HS.out]
        rfl)
      have hzd : (⟨(dgs 1 j).toArray⟩ : ByteArray).size ≤ 1 := dgs1_len j
      have hz1 : (S ++ ⟨#[115, 99, 97, 108, 97, 114, 32, 83]⟩ : ByteArray).size ≤ 108 := by rw [ByteArray.size_append]; show S.size + 8 ≤ _; omega
      have hz2 : ((S ++ ⟨#[115, 99, 97, 108, 97, 114, 32, 83]⟩) ++ ⟨(dgs 1 j).toArray⟩ : ByteArray).size ≤ 109 := by rw [ByteArray.size_append]; omega
      clear hb
      generalize (⟨(dgs 1 j).toArray⟩ : ByteArray) = DG at *
      go_wp2_with fail
      with_reducible refine (HPn _).mono ?_
      rintro e w1 ⟨rfl, rfl⟩
      go_wp2_with fail
      refine HDG.mono ?_
      rintro e w2 ⟨rfl, mm, rfl⟩
      go_wp2_with fail
      go_roundg (p - (j + 1))
      case measure => omega
      case rel => exact ⟨j + 1, _, rfl, by go_num, by omega, rfl, HS2, below_drewN HB.out _⟩
    · have hd : decide ((j : Int) < (p : Int)) = false := decide_eq_false (by omega)
      have hd2 : decide (j < p) = false := decide_eq_false hlt
      obtain rfl : j = p := by omega
      have hX : (S ++ x).data.toList = ahS j ++ x.data.toList := by
        rw [ByteArray.data_append, Array.toList_append, HS.out]
      obtain ⟨f1, f2, f3, f4, f5, f6⟩ := HFA.out
      rw [← hX] at f1 f2 f3 f4 f5 f6
      rw [← HS.out] at f4
      have HP := fun W (hW : EvOk W) => sparse_any (S ++ x) W (by rw [ByteArray.size_append]; omega) f1 f2 hW
      have HEW := Lib.hid (EvOk.below hb HEV.out)
      generalize sparseM (S ++ x).data.toList = R at *
      obtain ⟨⟨qu, mu, ty⟩, at_, er⟩ := R
      dsimp only at f3 f4 f5 f6
      subst f3 f4 f5 f6
      clear hX HS HFA f1 f2 hb hq
      go_wp2_with fail
      with_reducible refine (HPn _).mono ?_
      rintro e w1 ⟨rfl, rfl⟩
      clear HPn
      go_wp2_with fail
      with_reducible refine (HPm _).mono ?_
      rintro e w1 ⟨rfl, rfl⟩
      clear HPm
      go_wp2_with fail
      refine (HP _ HEW.out).mono ?_
      rintro e w1 ⟨vt, rfl, hrow, b1⟩
      dsimp only at hrow
      obtain ⟨at3, ct3, rfl⟩ := hrow.shape
      clear hrow HP
      have HB1 := Lib.hid (HB.out.trans (b1.mono HB.out.size))
      have HEW1 := Lib.hid (EvOk.below b1 HEW.out)
      clear b1 HEW
      have HAW := fun W (hW : EvOk W) => sdlAwake W hW
      go_wp2_with fail
      refine (HAW _ (EvOk.below ((Below.refl _ _).alloc (Nat.le_refl _) _) HEW1.out)).mono ?_
      rintro e w4 ⟨rfl, b4⟩
      go_wp2_with fail
      go_ret
      exact ⟨rfl, (HB1.out.alloc HB1.out.size _).trans (b4.mono (HB1.out.alloc HB1.out.size _).size)⟩

theorem wOk_use {p k : Nat} (hp : p < 10) (hk : k < 10) : tokSmall (lexP (ahS p ++ wrS k)).1 = true ∧ intsOk (lexP (ahS p ++ wrS k)).1 = true ∧ (sparseM (ahS p ++ wrS k)).2.2 = 2 ∧ (sparseM (ahS p ++ wrS k)).2.1 = (ahS p).length + badN k ∧ (sparseM (ahS p ++ wrS k)).1.types = [] ∧ (sparseM (ahS p ++ wrS k)).1.qu = [] := by
  have h := w_ok hp hk
  unfold wOk at h
  dsimp only at h
  simp only [Bool.and_eq_true, beq_iff_eq, List.isEmpty_iff] at h
  exact ⟨h.1.1.1, h.1.1.2, h.2.1, h.2.2.1, h.2.2.2.1, h.2.2.2.2⟩

theorem sdlWrong_walk (how ahead : Int) (w : World) (hev : EvOk w) : Calls Tryz.prog 8 #[.int .i64 how, .int .i64 ahead] w (TrueBelow w) := by
  obtain ⟨p, ep, lp⟩ := srem_nat ahead 10 (by omega)
  obtain ⟨k, ek, lk⟩ := srem_nat how 10 (by omega)
  have HPn : ∀ W, Calls Tryz.prog 19 #[.int .i64 ahead, .int .i64 10] W fun e w' => e = .returned (.int .i64 (p : Int)) ∧ W = w' := fun W => by have := place_any ahead 10 W (by omega) (by omega); rw [ep] at this; exact this
  have HPm : ∀ W, Calls Tryz.prog 19 #[.int .i64 how, .int .i64 10] W fun e w' => e = .returned (.int .i64 (k : Int)) ∧ W = w' := fun W => by have := place_any how 10 W (by omega) (by omega); rw [ek] at this; exact this
  have hp : p < 10 := by omega
  have hk : k < 10 := by omega
  obtain ⟨a1, a2, a3, a4, a5, a6⟩ := wOk_use hp hk
  clear ep ek lp lk
  match k, hk with
  | 0, _ => exact sw_walk how ahead w hev p 0 7 ⟨#[116, 121, 112, 101, 32, 84, 123, 125]⟩ hp (by decide) (by decide) HPn HPm sw_ix0 sw_ib0 a1 a2 a3 a4 a5 a6
  | 1, _ => exact sw_walk how ahead w hev p 1 8 ⟨#[116, 121, 112, 101, 32, 84, 123, 97, 125]⟩ hp (by decide) (by decide) HPn HPm sw_ix1 sw_ib1 a1 a2 a3 a4 a5 a6
  | 2, _ => exact sw_walk how ahead w hev p 2 17 ⟨#[116, 121, 112, 101, 32, 84, 123, 97, 58, 73, 110, 116, 64, 99, 111, 115, 116, 125]⟩ hp (by decide) (by decide) HPn HPm sw_ix2 sw_ib2 a1 a2 a3 a4 a5 a6
  | 3, _ => exact sw_walk how ahead w hev p 3 13 ⟨#[116, 121, 112, 101, 32, 84, 123, 97, 58, 73, 110, 116, 64, 111, 116, 104, 101, 114, 40, 110, 58, 49, 41, 125]⟩ hp (by decide) (by decide) HPn HPm sw_ix3 sw_ib3 a1 a2 a3 a4 a5 a6
  | 4, _ => exact sw_walk how ahead w hev p 4 7 ⟨#[117, 110, 105, 111, 110, 32, 85]⟩ hp (by decide) (by decide) HPn HPm sw_ix4 sw_ib4 a1 a2 a3 a4 a5 a6
  | 5, _ => exact sw_walk how ahead w hev p 5 7 ⟨#[101, 110, 117, 109, 32, 69, 123, 125]⟩ hp (by decide) (by decide) HPn HPm sw_ix5 sw_ib5 a1 a2 a3 a4 a5 a6
  | 6, _ => exact sw_walk how ahead w hev p 6 14 ⟨#[105, 110, 112, 117, 116, 32, 73, 123, 97, 58, 73, 110, 116, 61, 36, 118, 125]⟩ hp (by decide) (by decide) HPn HPm sw_ix6 sw_ib6 a1 a2 a3 a4 a5 a6
  | 7, _ => exact sw_walk how ahead w hev p 7 0 ⟨#[104, 111, 112]⟩ hp (by decide) (by decide) HPn HPm sw_ix7 sw_ib7 a1 a2 a3 a4 a5 a6
  | 8, _ => exact sw_walk how ahead w hev p 8 7 ⟨#[115, 99, 104, 101, 109, 97, 123, 109, 117, 116, 97, 116, 105, 111, 110, 58, 77, 125]⟩ hp (by decide) (by decide) HPn HPm sw_ix8 sw_ib8 a1 a2 a3 a4 a5 a6
  | 9, _ => exact sw_walk how ahead w hev p 9 9 ⟨#[116, 121, 112, 101, 32, 84, 123, 97, 40, 41, 58, 73, 110, 116, 125]⟩ hp (by decide) (by decide) HPn HPm sw_ix9 sw_ib9 a1 a2 a3 a4 a5 a6
end Go.Proofs.YtkahnlgedacppaaGreatDoor
/-
  What 'laid' says of strconv.ErrSyntax.
-/
namespace Go.Proofs.YtkahnlgedacppaaGreatDoor
open Go.RowKit Go.ChangeShapes Go.WideShapes

theorem evRow (u : TypeId) (h : Tryz.prog.typeName? 3 u = some "*errors.errorString") : u = 360 :=
  typeName_ptr_named (nm := "errors.errorString") (by rw [show "*" ++ "errors.errorString" = "*errors.errorString" by decide]; kernel_rfl) (by kernel_rfl) (by decide) u (by rw [show "*" ++ "errors.errorString" = "*errors.errorString" by decide]; exact h)
theorem evOk_head {r : List (String × DataW Unit)} {W : World} (h : laidMet Tryz.prog (("strconv.ErrSyntax", Rows.laid_strconv_ErrSyntax) :: r) W) : EvOk W := by
  have hg : Tryz.prog.globalNamed "strconv.ErrSyntax" = some 4 := by kernel_rfl
  obtain ⟨a, s, hv, _⟩ := laid_sentinel h hg (by kernel_rfl) Tryz.underlying179 evRow Tryz.underlying360 Tryz.underlying362 rfl rfl Tryz.underlying9 (by kernel_rfl) (by kernel_rfl)
  exact ⟨_, by simpa using World.var?_cell hg hv 0, .inr ⟨_, _, rfl⟩⟩
theorem evOk_laid {W : World} (h : laidMetH Tryz.prog Rows.sdlWrongRow.laid W) : EvOk W := by
  obtain ⟨h1, -⟩ := laidMetH_iff.1 h
  have h2 : laidMet Tryz.prog [("math/bits.deBruijn32tab", Rows.laid_math_bits_deBruijn32tab), ("math/bits.deBruijn64tab", Rows.laid_math_bits_deBruijn64tab), ("internal/strconv.uint64pow10", Rows.laid_internal_strconv_uint64pow10), ("unicode/utf8.acceptRanges", Rows.laid_unicode_utf8_acceptRanges), ("strconv.ErrRange", Rows.laid_strconv_ErrRange), ("strconv.ErrSyntax", Rows.laid_strconv_ErrSyntax), ("unicode/utf8.first", Rows.laid_unicode_utf8_first)] W := h1
  exact evOk_head h2.tail.tail.tail.tail.tail

end Go.Proofs.YtkahnlgedacppaaGreatDoor
/-
  A world in which the two listed tables lie as their initialisers lay them.
-/
namespace Go.Proofs.YtkahnlgedacppaaGreatDoor
open Go.ChangeShapes Go.WideShapes Go.ChangeAt Go.RowKit

theorem laidOwn : ownKnob Tryz.prog.godebug = none := by kernel_rfl
theorem laidOut : laidOutB Tryz.prog = true := by kernel_rfl

def firstCells : Array Value := (Go.Pinned.utf8FirstZ.map fun (n : Nat) => Value.int .u8 n).toArray
def acceptCells : Array Value := #[.int .u8 128, .int .u8 191, .int .u8 160, .int .u8 191, .int .u8 128, .int .u8 159, .int .u8 144, .int .u8 191, .int .u8 128, .int .u8 143, .int .u8 0, .int .u8 0, .int .u8 0, .int .u8 0, .int .u8 0, .int .u8 0, .int .u8 0, .int .u8 0, .int .u8 0, .int .u8 0, .int .u8 0, .int .u8 0, .int .u8 0, .int .u8 0, .int .u8 0, .int .u8 0, .int .u8 0, .int .u8 0, .int .u8 0, .int .u8 0, .int .u8 0, .int .u8 0]
def layCells (cs : Array Value) : Obj → Obj
  | .cells _ t frozen => .cells cs t frozen
  | o => o
/-- A slice of ints, read: its numbers, its length, its cells. -/
theorem ints_read {H : Type} {enc : TypeId × Value → H} {W : World} {a : Option Addr} {len cap : Nat} {d : DataW H} {p : List MemPlace} {base : Nat} {sp : Nat → Bool} {held : Bool} (h : DataW.Trod enc Tryz.prog W base sp held 56 (.slice a len cap) d p) :
    ∃ zs : List Int, zs.length = len ∧ len ≤ maxLen ∧ (0 < len → ∃ b off, a = some ⟨b, off, none⟩ ∧ ∀ i z, zs[i]? = some z → W.cell? ⟨b, off + i, none⟩ = some (.int .i64 z)) := by
  obtain ⟨fuel, hf⟩ := h
  rcases open_ints Tryz.underlying56 Tryz.underlying3 (by kernel_rfl) hf with ⟨hcs, _⟩ | ⟨x, l, c, zs, hcs, _, hl, hm, hz, _, hcell, hwz⟩
  · simp [Value.cells] at hcs
    obtain ⟨rfl, rfl, rfl⟩ := hcs
    exact ⟨[], rfl, Nat.zero_le _, fun h => absurd h (by omega)⟩
  · simp [Value.cells] at hcs
    obtain ⟨rfl, rfl, rfl⟩ := hcs
    have hzl : len ≤ zs.length := by rw [hz]; split <;> omega
    refine ⟨zs.take len, by rw [List.length_take]; omega, by omega, fun h => ?_⟩
    obtain ⟨b, off, rfl, hc⟩ := ints_at hcell (by omega)
    refine ⟨b, off, rfl, fun i z hz' => ?_⟩
    rw [List.getElem?_take] at hz'
    split at hz'
    · obtain ⟨hi, e⟩ := List.getElem?_eq_some_iff.1 hz'
      have := hc i hi
      rw [List.getD_eq_getElem?_getD, hz'] at this
      exact this
    · cases hz'

end Go.Proofs.YtkahnlgedacppaaGreatDoor
/-
  A world in which the listed tables and the two sentinels of strconv lie as their initialisers lay them.
-/
namespace Go.Proofs.YtkahnlgedacppaaGreatDoor
open Go.ChangeShapes Go.WideShapes Go.ChangeAt Go.RowKit

def litV : Nat → DataW Unit → List Value
  | _, .lit (.int k n) => [.int k n]
  | n + 1, .agg ds => ds.flatMap (litV n)
  | _, _ => []
def errTexts : List (List UInt8) := [[118, 97, 108, 117, 101, 32, 111, 117, 116, 32, 111, 102, 32, 114, 97, 110, 103, 101], [105, 110, 118, 97, 108, 105, 100, 32, 115, 121, 110, 116, 97, 120]]
noncomputable def lowE : Nat := (World.holding Tryz.prog default ⟨#[], #[], []⟩).heap.size
noncomputable def laidWorldE (os : Os) : World :=
  let w0 := World.holding Tryz.prog os ⟨#[.cells #[.string ⟨(errTexts.getD 0 []).toArray⟩] 362, .cells #[.string ⟨(errTexts.getD 1 []).toArray⟩] 362], #[], []⟩
  { w0 with heap := ((((((w0.heap.modify 1 (layCells firstCells)).modify 2 (layCells acceptCells)).modify 6 (layCells (litV 3 Rows.laid_math_bits_deBruijn32tab).toArray)).modify 7 (layCells (litV 3 Rows.laid_math_bits_deBruijn64tab).toArray)).modify 3 (layCells (litV 3 Rows.laid_internal_strconv_uint64pow10).toArray)).modify 5 (layCells #[.iface 360 (.pointer (some ⟨lowE, 0, none⟩))])).modify 4 (layCells #[.iface 360 (.pointer (some ⟨lowE + 1, 0, none⟩))]) }
end Go.Proofs.YtkahnlgedacppaaGreatDoor
