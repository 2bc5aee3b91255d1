/-
  PrintWords: what its walk needs.
-/
import Derived.Test.YtkfllppggjhhmaaGreatDoorMLaid
import Derived.Test.YtkfllppggjhhmaaGreatDoorMPf
import Derived.Test.YtkfllppggjhhmaaGreatDoorMLx3
import Derived.Test.YtkfllppggjhhmaaGreatDoorMPm
import Derived.Test.YtkfllppggjhhmaaGreatDoorMDa
import Derived.Deep.AppendLies
import Derived.Deep.RegionLaw
namespace Go.Proofs.YtkfllppggjhhmaaGreatDoor
open Go.RowKit
set_option linter.unusedVariables false

theorem pmod_nat (v n : Int) (hn : 0 < n) : ∃ u : Nat, v % n = (u : Int) ∧ (u : Int) < n := ⟨(v % n).toNat, by have := Int.emod_nonneg v (show n ≠ 0 by omega); omega, by have := Int.emod_lt_of_pos v hn; have := Int.emod_nonneg v (show n ≠ 0 by omega); omega⟩
theorem wdgs_one {j : Nat} (h : j < 5) : dgs 1 j = [48 + UInt8.ofNat j] := by
  obtain rfl | rfl | rfl | rfl | rfl : j = 0 ∨ j = 1 ∨ j = 2 ∨ j = 3 ∨ j = 4 := by omega
  all_goals kernel_rfl
/-- Digits of a small number: the heap stays as it is. -/
theorem wDig_any (i : Nat) (hi : i < 5) (W : World) : Calls Tryz.prog 22 #[.int .i64 (i : Int)] W fun e w' => e = .returned (.string ⟨[48 + UInt8.ofNat i].toArray⟩) ∧ Below W.heap.size W w' ∧ (∀ b : Nat, w'.heap[b]? = W.heap[b]?) ∧ w'.heap.size = W.heap.size := by
  have h := lawDigits_any 1 i W (by omega) (by decide) (by decide)
  rw [wdgs_one hi] at h
  refine h.mono ?_
  rintro e w' ⟨rfl, m, rfl⟩
  exact ⟨rfl, below_drewN (Below.refl _ W) m, fun _ => rfl, rfl⟩
/-- What [2]string{..}[min(i, 1)] is. -/
theorem wOpen_args (i : Nat) (hi : i < 5) : ∃ (k : Int) (OP : ByteArray), (∀ W, (Builtin.min_ #[3, 3] 3 #[.int .i64 (i : Int), .int .i64 1]).run Tryz.prog W = .ok (.int .i64 k) W) ∧ (∀ W, (Instr.index 65 (.agg #[.string ⟨#[40]⟩, .string ⟨#[32]⟩]) (.int .i64 k)).run Tryz.prog W = .ok (.string OP) W) ∧ OP.data.toList = tOpen 40 i ∧ OP.size = 1 := by
  obtain rfl | rfl | rfl | rfl | rfl : i = 0 ∨ i = 1 ∨ i = 2 ∨ i = 3 ∨ i = 4 := by omega
  · exact ⟨0, ⟨#[40]⟩, fun W => by kernel_rfl, fun W => by kernel_rfl, rfl, rfl⟩
  all_goals exact ⟨1, ⟨#[32]⟩, fun W => by kernel_rfl, fun W => by kernel_rfl, rfl, rfl⟩
theorem wOpen_sels (i : Nat) (hi : i < 5) : ∃ (k : Int) (OP : ByteArray), (∀ W, (Builtin.min_ #[3, 3] 3 #[.int .i64 (i : Int), .int .i64 1]).run Tryz.prog W = .ok (.int .i64 k) W) ∧ (∀ W, (Instr.index 65 (.agg #[.string ⟨#[123]⟩, .string ⟨#[32]⟩]) (.int .i64 k)).run Tryz.prog W = .ok (.string OP) W) ∧ OP.data.toList = tOpen 123 i ∧ OP.size = 1 := by
  obtain rfl | rfl | rfl | rfl | rfl : i = 0 ∨ i = 1 ∨ i = 2 ∨ i = 3 ∨ i = 4 := by omega
  · exact ⟨0, ⟨#[123]⟩, fun W => by kernel_rfl, fun W => by kernel_rfl, rfl, rfl⟩
  all_goals exact ⟨1, ⟨#[32]⟩, fun W => by kernel_rfl, fun W => by kernel_rfl, rfl, rfl⟩

/-- The string so far. -/
def StrW (X : List UInt8) (S : ByteArray) : Prop := S.data.toList = X ∧ S.size ≤ 300
theorem strW_add {X Y : List UInt8} {S T : ByteArray} (h : StrW X S) (hT : T.data.toList = Y) (hz : (X ++ Y).length ≤ 300) : StrW (X ++ Y) (S ++ T) := by
  have e : (S ++ T).data.toList = X ++ Y := by rw [ByteArray.data_append, Array.toList_append, h.1, hT]
  exact ⟨e, by show (S ++ T).data.toList.length ≤ 300; rw [e]; exact hz⟩
theorem strW_eq {X : List UInt8} {S : ByteArray} (h : S.data.toList = X) : S = ⟨X.toArray⟩ := by
  obtain ⟨d⟩ := S
  subst h
  rfl
theorem vs_leafW (k : Int) (s : ByteArray) (hs : s.size ≤ 1000) : VS (.mk k s [] []) := fun m => by
  cases m with
  | zero =>
    unfold vtxt
    split
    · exact Nat.zero_le _
    · exact Nat.le_trans (leafT_len _) (by show 6 * s.size + 4 ≤ _; omega)
  | succ m =>
    unfold vtxt
    split
    · exact (show 2 ≤ 100000000000 by decide)
    · split
      · exact (show 2 ≤ 100000000000 by decide)
      · exact Nat.le_trans (leafT_len _) (by show 6 * s.size + 4 ≤ _; omega)
theorem wArg_E (W : World) (D : Nat → Prop) (i : Nat) (NM : ByteArray) (hN : NM.data.toList = wnm i) : ArgE W D (wArg i) [.string NM, .int .i64 3, .string ⟨[48 + UInt8.ofNat i].toArray⟩, .slice none 0 0, .slice none 0 0] := by
  rw [strW_eq hN]
  exact ⟨⟨Nat.le_of_ble_eq_true rfl, vs_leafW _ _ (Nat.le_of_ble_eq_true rfl)⟩, _, _, _, _, rfl, 1, rd_leaf _ _ 0 3 _ (Nat.le_of_ble_eq_true rfl)⟩
theorem wArgs_snoc (i : Nat) : wArgs (i + 1) = wArgs i ++ [wArg i] := by
  unfold wArgs
  rw [List.range_succ, List.map_append]
  rfl
theorem wArgs_len (i : Nat) : (wArgs i).length = i := by simp [wArgs]
theorem rep_snoc {α : Type} (i : Nat) (x : α) : List.replicate (i + 1) x = List.replicate i x ++ [x] := List.replicate_succ'
end Go.Proofs.YtkfllppggjhhmaaGreatDoor
