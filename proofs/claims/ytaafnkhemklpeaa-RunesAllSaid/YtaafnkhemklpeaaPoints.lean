/-
  refectorylaw01.RunesPoints answers true at every input.
-/
import Derived.Test.YtaafnkhemklpeaaBackLaw
import Derived.Deep.QuietTactic
import Derived.BigQuiet
import Derived.IntWalk
namespace Go.Proofs.Ytaafnkhemklpeaa
open Go.RowKit

theorem and_15 (n : Int) : bits .and .i64 n 15 = n % 16 := by
  have h : (BitVec.ofInt 64 15).toNat = 2 ^ 4 - 1 := by decide
  have key : (BitVec.ofInt 64 n &&& BitVec.ofInt 64 15).toNat = (n % ((2 ^ 64 : Nat) : Int)).toNat % 2 ^ 4 := by
    rw [BitVec.toNat_and, BitVec.toNat_ofInt, h, Nat.and_two_pow_sub_one_eq_mod]
  show IntKind.i64.wrap ((BitVec.ofInt 64 n &&& BitVec.ofInt 64 15).toNat : Nat) = n % 16
  rw [key, IntKind.wrap_i64]
  omega

theorem and_1023 (n : Int) : bits .and .i64 n 1023 = n % 1024 := by
  have h : (BitVec.ofInt 64 1023).toNat = 2 ^ 10 - 1 := by decide
  have key : (BitVec.ofInt 64 n &&& BitVec.ofInt 64 1023).toNat = (n % ((2 ^ 64 : Nat) : Int)).toNat % 2 ^ 10 := by
    rw [BitVec.toNat_and, BitVec.toNat_ofInt, h, Nat.and_two_pow_sub_one_eq_mod]
  show IntKind.i64.wrap ((BitVec.ofInt 64 n &&& BitVec.ofInt 64 1023).toNat : Nat) = n % 1024
  rw [key, IntKind.wrap_i64]
  omega

/-- The text of four digits of sixteen. -/
def fourS (H : ByteArray) (n : Nat) : ByteArray := (⟨#[92, 117]⟩ : ByteArray) ++ H.extract (n / 4096 % 16) (n / 4096 % 16 + 1) ++ H.extract (n / 256 % 16) (n / 256 % 16 + 1) ++ H.extract (n / 16 % 16) (n / 16 % 16 + 1) ++ H.extract (n % 16) (n % 16 + 1)

theorem dig_fact (x : Int) (d : Nat) (hx : x % 16 = d) : bits .and .i64 x 15 = (d : Int) := by
  rw [and_15, hx]

theorem slice_fact (H : ByteArray) (hH : H.size = 16) (d : Nat) (hd : d < 16) (w : World) : (Instr.slice 9 (.string H) (some (.int .i64 (d : Int))) (some (.int .i64 ((d : Int) + 1))) none).run Try.prog w = .ok (.string (H.extract d (d + 1))) w := by
  rw [run_slice_string_if _ _ _ _ _ _ _ Try.underlying9, if_pos (by omega), if_pos (by omega)]
  have e : ((d : Int) + 1).toNat = d + 1 := by omega
  rw [e]
  rfl

set_option maxHeartbeats 4000000 in
set_option maxRecDepth 100000 in
theorem four_any (n : Nat) (H : ByteArray) (hH : H.size = 16) (b : Nat) (w : World) (hc : w.cell? ⟨b, 0, none⟩ = some (.string H)) :
    Calls Try.prog 21 #[.int .i64 n, .pointer (some ⟨b, 0, none⟩)] w fun e w' => e = .returned (.string (fourS H n)) ∧ ∃ k, w' = w.drewN k := by
  have HF := Lib.hid (show fourS H n = (⟨#[92, 117]⟩ : ByteArray) ++ H.extract (n / 4096 % 16) (n / 4096 % 16 + 1) ++ H.extract (n / 256 % 16) (n / 256 % 16 + 1) ++ H.extract (n / 16 % 16) (n / 16 % 16 + 1) ++ H.extract (n % 16) (n % 16 + 1) from rfl)
  have e3 := dig_fact ((n : Int) / 4096) (n / 4096 % 16) (by omega)
  have e2 := dig_fact ((n : Int) / 256) (n / 256 % 16) (by omega)
  have e1 := dig_fact ((n : Int) / 16) (n / 16 % 16) (by omega)
  have e0 := dig_fact (n : Int) (n % 16) (by omega)
  have l3 : n / 4096 % 16 < 16 := by omega
  have l2 : n / 256 % 16 < 16 := by omega
  have l1 : n / 16 % 16 < 16 := by omega
  have l0 : n % 16 < 16 := by omega
  generalize n / 4096 % 16 = d3 at *
  generalize n / 256 % 16 = d2 at *
  generalize n / 16 % 16 = d1 at *
  generalize n % 16 = d0 at *
  have s3 := slice_fact H hH d3 l3
  have s2 := slice_fact H hH d2 l2
  have s1 := slice_fact H hH d1 l1
  have s0 := slice_fact H hH d0 l0
  have w3 : IntKind.i64.wrap ((d3 : Int) + 1) = (d3 : Int) + 1 := IntWalk.i64_in _ (by omega)
  have w2 : IntKind.i64.wrap ((d2 : Int) + 1) = (d2 : Int) + 1 := IntWalk.i64_in _ (by omega)
  have w1 : IntKind.i64.wrap ((d1 : Int) + 1) = (d1 : Int) + 1 := IntWalk.i64_in _ (by omega)
  have w0 : IntKind.i64.wrap ((d0 : Int) + 1) = (d0 : Int) + 1 := IntWalk.i64_in _ (by omega)
  clear l3 l2 l1 l0
  go_enter Try.func21, Try.ntmps21
  go_wp2_with fail
  go_quiet (fail)
  go_wp2_with fail
  go_ret
  exact ⟨by rw [HF.out]; rfl, _, rfl⟩

end Go.Proofs.Ytaafnkhemklpeaa
