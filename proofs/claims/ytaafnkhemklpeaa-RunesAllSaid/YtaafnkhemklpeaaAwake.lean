/-
  What refectorylaw01.awake and refectorylaw00.Place answer.
-/
import Derived.Test.YtaafnkhemklpeaaUnq3
namespace Go.Proofs.Ytaafnkhemklpeaa
open Go.RowKit

theorem aw1 : unqP [34, 92, 117, 48, 48, 52, 49, 34] = some [65] := by decide +kernel
theorem aw2 : quoteB [97, 10] = [34, 97, 92, 110, 34] := by decide +kernel
theorem aw3 : nameB [95, 97, 49] = true := by decide +kernel
theorem aw4 : nameB [49, 97] = false := by decide +kernel

def TrueBelow (w : World) (e : Ending) (w' : World) : Prop := e = .returned (.bool true) ∧ Below w.heap.size w w'

theorem awUnquote (w : World) : Calls Try.prog 10 #[.string ⟨#[34, 92, 117, 48, 48, 52, 49, 34]⟩] w fun e w' => e = .returned (.tuple #[.string ⟨#[65]⟩, .bool true]) ∧ Below w.heap.size w w' := by
  refine (unquote_any _ w (by decide)).mono ?_
  rintro e w' h
  have e1 : unqP (⟨#[34, 92, 117, 48, 48, 52, 49, 34]⟩ : ByteArray).data.toList = some [65] := aw1
  rw [e1] at h
  exact ⟨h.2, h.1⟩
theorem awQuote (w : World) : Calls Try.prog 16 #[.string ⟨#[97, 10]⟩] w fun e w' => e = .returned (.string ⟨#[34, 97, 92, 110, 34]⟩) ∧ Below w.heap.size w w' := by
  refine (quote_any _ w (by decide)).mono ?_
  rintro e w' h
  have e1 : quoteB (⟨#[97, 10]⟩ : ByteArray).data.toList = [34, 97, 92, 110, 34] := aw2
  rw [e1] at h
  exact h
theorem awName1 (w : World) : Calls Try.prog 14 #[.string ⟨#[95, 97, 49]⟩] w fun e w' => e = .returned (.bool true) ∧ Below w.heap.size w w' := by
  refine (name_any _ w (by decide)).mono ?_
  rintro e w' h
  have e1 : nameB (⟨#[95, 97, 49]⟩ : ByteArray).data.toList = true := aw3
  rw [e1] at h
  exact h
theorem awName2 (w : World) : Calls Try.prog 14 #[.string ⟨#[49, 97]⟩] w fun e w' => e = .returned (.bool false) ∧ Below w.heap.size w w' := by
  refine (name_any _ w (by decide)).mono ?_
  rintro e w' h
  have e1 : nameB (⟨#[49, 97]⟩ : ByteArray).data.toList = false := aw4
  rw [e1] at h
  exact h

set_option maxHeartbeats 1000000 in
theorem awake_any (w : World) : Calls Try.prog 9 #[] w (TrueBelow w) := by
  go_enter Try.func9, Try.ntmps9
  go_wp2_with fail
  refine (awUnquote w).mono ?_
  rintro e w1 ⟨rfl, b1⟩
  go_wp2_with fail
  refine (awQuote w1).mono ?_
  rintro e w2 ⟨rfl, b2⟩
  go_wp2_with fail
  refine (awName1 w2).mono ?_
  rintro e w3 ⟨rfl, b3⟩
  go_wp2_with fail
  refine (awName2 w3).mono ?_
  rintro e w4 ⟨rfl, b4⟩
  go_wp2_with fail
  go_ret
  have s1 := b1.size
  have s2 := b2.size
  have s3 := b3.size
  exact ⟨rfl, ((b1.trans (b2.mono (by omega))).trans (b3.mono (by omega))).trans (b4.mono (by omega))⟩

theorem tmod_fix (v n : Int) (hn : 0 < n) : -n < v.tmod n ∧ v.tmod n < n ∧ v % n = if v.tmod n < 0 then v.tmod n + n else v.tmod n := by
  have h1 := Int.emod_nonneg v (by omega : n ≠ 0)
  have h2 := Int.emod_lt_of_pos v hn
  have h3 := @Int.tmod_eq_emod v n
  by_cases h : 0 ≤ v ∨ n ∣ v
  · rw [if_pos h] at h3
    refine ⟨by omega, by omega, ?_⟩
    rw [if_neg (by omega)]
    omega
  · rw [if_neg h] at h3
    by_cases hz : v % n = 0
    · exact absurd (.inr (Int.dvd_of_emod_eq_zero hz)) h
    · refine ⟨by omega, by omega, ?_⟩
      rw [if_pos (by omega)]
      omega

theorem ret_i64 {a b : Int} (h : a = b) : Ending.returned (.int .i64 a) = .returned (.int .i64 b) := by rw [h]

set_option maxHeartbeats 1000000 in
theorem place_any (v n : Int) (w : World) (hn : 0 < n) (hm : n ≤ 1099511627776) :
    Calls Try.prog 20 #[.int .i64 v, .int .i64 n] w fun e w' => e = .returned (.int .i64 (v % n)) ∧ w = w' := by
  obtain ⟨t1, t2, t3⟩ := tmod_fix v n hn
  have HT := Lib.hid t3
  clear t3
  go_enter Try.func20, Try.ntmps20
  go_wp2
  · go_ret
    exact ⟨ret_i64 (by rw [HT.out, if_pos ‹_›]), rfl⟩
  · go_ret
    exact ⟨ret_i64 (by rw [HT.out, if_neg (by omega)]), rfl⟩

end Go.Proofs.Ytaafnkhemklpeaa
