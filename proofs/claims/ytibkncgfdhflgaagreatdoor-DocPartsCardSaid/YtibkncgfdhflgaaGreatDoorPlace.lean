/-
  What refectorylaw00.Place answers.
-/
import Derived.Test.YtibkncgfdhflgaaGreatDoorSmall
namespace Go.Proofs.YtibkncgfdhflgaaGreatDoor
open Go.RowKit

theorem tmod_fix (v n : Int) (hn : 0 < n) : -n < v.tmod n ∧ v.tmod n < n ∧ v % n = if v.tmod n < 0 then v.tmod n + n else v.tmod n := by
  have h1 := Int.emod_nonneg v (by omega : n ≠ 0)
  have h2 := Int.emod_lt_of_pos v hn
  have h3 := @Int.tmod_eq_emod v n
  by_cases h : 0 ≤ v ∨ n ∣ v
  · rw [if_pos h] at h3
    refine ⟨by omega, by omega, ?_⟩
    rw [if_neg (by omega)]
    omega
  · rw [if_neg h] at h3
    by_cases hz : v % n = 0
    · exact absurd (.inr (Int.dvd_of_emod_eq_zero hz)) h
    · refine ⟨by omega, by omega, ?_⟩
      rw [if_pos (by omega)]
      omega

theorem ret_i64 {a b : Int} (h : a = b) : Ending.returned (.int .i64 a) = .returned (.int .i64 b) := by rw [h]

set_option maxHeartbeats 1000000 in
theorem place_any (v n : Int) (w : World) (hn : 0 < n) (hm : n ≤ 1099511627776) :
    Calls Tryz.prog 11 #[.int .i64 v, .int .i64 n] w fun e w' => e = .returned (.int .i64 (v % n)) ∧ w = w' := by
  obtain ⟨t1, t2, t3⟩ := tmod_fix v n hn
  have HT := Lib.hid t3
  clear t3
  go_enter Tryz.func11, Tryz.ntmps11
  go_wp2
  · go_ret
    exact ⟨ret_i64 (by rw [HT.out, if_pos ‹_›]), rfl⟩
  · go_ret
    exact ⟨ret_i64 (by rw [HT.out, if_neg (by omega)]), rfl⟩

def TrueBelow (w : World) (e : Ending) (w' : World) : Prop := e = .returned (.bool true) ∧ Below w.heap.size w w'

end Go.Proofs.YtibkncgfdhflgaaGreatDoor
