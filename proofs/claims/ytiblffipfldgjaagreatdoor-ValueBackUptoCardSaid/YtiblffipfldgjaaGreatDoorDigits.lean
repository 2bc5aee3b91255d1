/-
  What refectoryref08.Digits and refectorylaw00.Digits answer: a number's digits.
-/
import Derived.Test.YtiblffipfldgjaaGreatDoorPlace
import Derived.Test.YtiblffipfldgjaaGreatDoorNum
namespace Go.Proofs.YtiblffipfldgjaaGreatDoor
open Go.RowKit

def dch (d : Nat) : UInt8 := UInt8.ofNat (48 + d)
/-- The digits of a number that has at most f of them. -/
def dgs : Nat → Nat → List UInt8
  | 0, _ => []
  | f + 1, v => if v < 10 then [dch v] else dgs f (v / 10) ++ [dch (v % 10)]

theorem digit_slice (d : Nat) (hd : d < 10) (w : World) : (Instr.slice 9 (.string ⟨#[48, 49, 50, 51, 52, 53, 54, 55, 56, 57]⟩) (some (.int .i64 (d : Int))) (some (.int .i64 ((d : Int) + 1))) none).run Tryz.prog w = .ok (.string ⟨#[dch d]⟩) w := by
  have hz : digitsS.size = 10 := rfl
  rw [run_slice_string_if _ _ _ _ _ _ _ Tryz.underlying9, if_pos (by show _ ∧ _ ≤ (digitsS.size : Int); omega), if_pos (by omega)]
  have e : ((d : Int) + 1).toNat = d + 1 := by omega
  have e0 : ((d : Int)).toNat = d := by omega
  rw [e, e0]
  match d, hd with
  | 0, _ | 1, _ | 2, _ | 3, _ | 4, _ | 5, _ | 6, _ | 7, _ | 8, _ | 9, _ => rfl

theorem app_one (l : List UInt8) (b : UInt8) : (⟨l.toArray⟩ : ByteArray) ++ ⟨#[b]⟩ = ⟨(l ++ [b]).toArray⟩ := by
  rw [← of_list (⟨l.toArray⟩ ++ ⟨#[b]⟩), app_list]

theorem dgs_len : ∀ f v, (dgs f v).length ≤ f
  | 0, _ => Nat.le_refl _
  | f + 1, v => by
    unfold dgs
    split
    · simp
    · have := dgs_len f (v / 10)
      simp; omega

end Go.Proofs.YtiblffipfldgjaaGreatDoor
