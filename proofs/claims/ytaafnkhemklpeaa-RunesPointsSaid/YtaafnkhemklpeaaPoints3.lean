/-
  refectorylaw01.RunesPoints answers true at every input: the walk with great digits; both.
-/
import Derived.Test.YtaafnkhemklpeaaPoints2
namespace Go.Proofs.Ytaafnkhemklpeaa
open Go.RowKit

set_option maxHeartbeats 4000000 in
set_option maxRecDepth 100000 in
theorem pointsG_half (v : Int) (k : Nat) (hk : v % 1114112 = k) (hk2 : k < 1114112) (hh : 55296 ≤ k ∧ k ≤ 57343) (w : World) :
    Calls Try.prog 5 #[.int .i64 v, .bool true] w (TrueBelow w) := by
  have HK := Lib.hid hk
  clear hk
  have hcell : (w.alloc (.cells #[.string hexG] 9)).cell? ⟨w.heap.size, 0, none⟩ = some (.string hexG) := by simp
  have bA : Below w.heap.size w (w.alloc (.cells #[.string hexG] 9)) := (Below.refl _ w).alloc (Nat.le_refl _) _
  have f6 : (fourS hexG k).size ≤ 6 := by rw [fourS_size hexG digOk_great]; omega
  have d1 : decide ((55296 : Int) ≤ (k : Int)) = true := by simp; omega
  have d2 : decide ((k : Int) ≤ 57343) = true := by simp; omega
  go_enter Try.func5, Try.ntmps5
  go_wp2_with fail
  refine (place_any _ _ _ (by omega) (by omega)).mono ?_
  rintro e w' ⟨rfl, rfl⟩
  rw [HK.out]
  go_wp2_with fail
  refine (four_kept k hexG digOk_great.1 _ _ hcell).mono ?_
  rintro e w1 ⟨rfl, c1, b1⟩
  have B1 := below2 bA b1
  clear hcell bA b1
  go_wp2_with fail
  refine (unq_none (oneS hexG k) _ (by rw [oneS_size _ digOk_great]; omega) (by rw [oneS_list _ digOk_great]; exact unq_four_half (dig4_of _ digOk_great k) hh)).mono ?_
  rintro e w2 ⟨rfl, b2⟩
  go_wp2_with fail
  refine (awake_any _).mono ?_
  rintro e w3 ⟨rfl, b3⟩
  go_wp2_with fail
  go_ret
  exact ⟨rfl, below3 B1 b2 b3⟩

set_option maxHeartbeats 4000000 in
set_option maxRecDepth 100000 in
theorem pointsG_lo (v : Int) (k : Nat) (hk : v % 1114112 = k) (hk2 : k < 1114112) (hh : k < 55296) (w : World) :
    Calls Try.prog 5 #[.int .i64 v, .bool true] w (TrueBelow w) := by
  have HK := Lib.hid hk
  clear hk
  have hcell : (w.alloc (.cells #[.string hexG] 9)).cell? ⟨w.heap.size, 0, none⟩ = some (.string hexG) := by simp
  have bA : Below w.heap.size w (w.alloc (.cells #[.string hexG] 9)) := (Below.refl _ w).alloc (Nat.le_refl _) _
  have f6 : (fourS hexG k).size ≤ 6 := by rw [fourS_size hexG digOk_great]; omega
  have HV := Lib.hid (encS_valid k hk2 (by omega))
  have HU := Lib.hid (encS_utf8 k hk2 (by omega))
  have hes := encS_size k
  have d1 : decide ((55296 : Int) ≤ (k : Int)) = false := by simp; omega
  have d3 : decide ((65536 : Int) ≤ (k : Int)) = false := by simp; omega
  go_enter Try.func5, Try.ntmps5
  go_wp2_with fail
  refine (place_any _ _ _ (by omega) (by omega)).mono ?_
  rintro e w' ⟨rfl, rfl⟩
  rw [HK.out]
  go_wp2_with fail
  refine (four_kept k hexG digOk_great.1 _ _ hcell).mono ?_
  rintro e w1 ⟨rfl, c1, b1⟩
  have B1 := below2 bA b1
  clear hcell bA b1
  go_wp2_with fail
  refine (unq_is (oneS hexG k) (encS k) _ (by rw [oneS_size _ digOk_great]; omega) (by rw [oneS_list _ digOk_great]; exact unq_four_plain (dig4_of _ digOk_great k) (by omega) (by omega))).mono ?_
  rintro e w4 ⟨rfl, b4⟩
  go_wp2_with fail
  refine (quote_is _ _ (by omega)).mono ?_
  rintro e w5 ⟨rfl, b5⟩
  go_wp2_with fail
  refine (unq_of_quote _ _ HV.out (by omega)).mono ?_
  rintro e w6 ⟨rfl, b6⟩
  go_wp2_with fail
  refine (valid_is _ _ true HV.out).mono ?_
  rintro e w7 ⟨rfl, b7⟩
  have hu := HU.out
  go_wp2_with fail
  refine (awake_any _).mono ?_
  rintro e w8 ⟨rfl, b8⟩
  clear hu
  go_wp2_with fail
  go_ret
  exact ⟨rfl, below3 (below3 B1 b4 b5) (below3 b6 b7 b8) (Below.refl _ _)⟩

set_option maxHeartbeats 4000000 in
set_option maxRecDepth 100000 in
theorem pointsG_hi (v : Int) (k : Nat) (hk : v % 1114112 = k) (hk2 : k < 1114112) (hh : 57344 ≤ k) (hp : k < 65536) (w : World) :
    Calls Try.prog 5 #[.int .i64 v, .bool true] w (TrueBelow w) := by
  have HK := Lib.hid hk
  clear hk
  have hcell : (w.alloc (.cells #[.string hexG] 9)).cell? ⟨w.heap.size, 0, none⟩ = some (.string hexG) := by simp
  have bA : Below w.heap.size w (w.alloc (.cells #[.string hexG] 9)) := (Below.refl _ w).alloc (Nat.le_refl _) _
  have f6 : (fourS hexG k).size ≤ 6 := by rw [fourS_size hexG digOk_great]; omega
  have HV := Lib.hid (encS_valid k hk2 (by omega))
  have HU := Lib.hid (encS_utf8 k hk2 (by omega))
  have hes := encS_size k
  have d1 : decide ((55296 : Int) ≤ (k : Int)) = true := by simp; omega
  have d2 : decide ((k : Int) ≤ 57343) = false := by simp; omega
  have d3 : decide ((65536 : Int) ≤ (k : Int)) = false := by simp; omega
  go_enter Try.func5, Try.ntmps5
  go_wp2_with fail
  refine (place_any _ _ _ (by omega) (by omega)).mono ?_
  rintro e w' ⟨rfl, rfl⟩
  rw [HK.out]
  go_wp2_with fail
  refine (four_kept k hexG digOk_great.1 _ _ hcell).mono ?_
  rintro e w1 ⟨rfl, c1, b1⟩
  have B1 := below2 bA b1
  clear hcell bA b1
  go_wp2_with fail
  refine (unq_is (oneS hexG k) (encS k) _ (by rw [oneS_size _ digOk_great]; omega) (by rw [oneS_list _ digOk_great]; exact unq_four_plain (dig4_of _ digOk_great k) (by omega) (by omega))).mono ?_
  rintro e w4 ⟨rfl, b4⟩
  go_wp2_with fail
  refine (quote_is _ _ (by omega)).mono ?_
  rintro e w5 ⟨rfl, b5⟩
  go_wp2_with fail
  refine (unq_of_quote _ _ HV.out (by omega)).mono ?_
  rintro e w6 ⟨rfl, b6⟩
  go_wp2_with fail
  refine (valid_is _ _ true HV.out).mono ?_
  rintro e w7 ⟨rfl, b7⟩
  have hu := HU.out
  go_wp2_with fail
  refine (awake_any _).mono ?_
  rintro e w8 ⟨rfl, b8⟩
  clear hu
  go_wp2_with fail
  go_ret
  exact ⟨rfl, below3 (below3 B1 b4 b5) (below3 b6 b7 b8) (Below.refl _ _)⟩

set_option maxHeartbeats 4000000 in
set_option maxRecDepth 100000 in
theorem pointsG_big (v : Int) (k : Nat) (hk : v % 1114112 = k) (hk2 : k < 1114112) (hp : 65536 ≤ k) (w : World) :
    Calls Try.prog 5 #[.int .i64 v, .bool true] w (TrueBelow w) := by
  have HK := Lib.hid hk
  clear hk
  have hcell : (w.alloc (.cells #[.string hexG] 9)).cell? ⟨w.heap.size, 0, none⟩ = some (.string hexG) := by simp
  have bA : Below w.heap.size w (w.alloc (.cells #[.string hexG] 9)) := (Below.refl _ w).alloc (Nat.le_refl _) _
  have f6 : (fourS hexG k).size ≤ 6 := by rw [fourS_size hexG digOk_great]; omega
  have HV := Lib.hid (encS_valid k hk2 (by omega))
  have HU := Lib.hid (encS_utf8 k hk2 (by omega))
  have hes := encS_size k
  have d1 : decide ((55296 : Int) ≤ (k : Int)) = true := by simp; omega
  have d2 : decide ((k : Int) ≤ 57343) = false := by simp; omega
  have d3 : decide ((65536 : Int) ≤ (k : Int)) = true := by simp; omega
  obtain ⟨n, hn⟩ : ∃ n : Nat, (55296 : Int) + ((k : Int) - 65536) / 1024 = n := ⟨55296 + (k - 65536) / 1024, by omega⟩
  obtain ⟨m, hm⟩ : ∃ m : Nat, (56320 : Int) + bits .and .i64 ((k : Int) - 65536) 1023 = m := ⟨56320 + (k - 65536) % 1024, by rw [and_1023]; omega⟩
  have hnr : 55296 ≤ n ∧ n ≤ 56319 := by omega
  have hmr : 56320 ≤ m ∧ m ≤ 57343 := by rw [and_1023] at hm; omega
  have HE := Lib.hid (show (65536 : Int) + ((n : Int) - 55296) * 1024 + ((m : Int) - 56320) = k by rw [and_1023] at hm; omega)
  have g6 : (fourS hexG n).size ≤ 6 := by rw [fourS_size hexG digOk_great]; omega
  have h6 : (fourS hexG m).size ≤ 6 := by rw [fourS_size hexG digOk_great]; omega
  have z7 : ((⟨#[34]⟩ : ByteArray) ++ fourS hexG n).size ≤ 7 := by rw [ByteArray.size_append]; have : (⟨#[34]⟩ : ByteArray).size = 1 := rfl; omega
  have z13 : ((⟨#[34]⟩ : ByteArray) ++ fourS hexG n ++ fourS hexG m).size ≤ 13 := by rw [ByteArray.size_append]; omega
  go_enter Try.func5, Try.ntmps5
  go_wp2_with fail
  refine (place_any _ _ _ (by omega) (by omega)).mono ?_
  rintro e w' ⟨rfl, rfl⟩
  rw [HK.out]
  go_wp2_with fail
  refine (four_kept k hexG digOk_great.1 _ _ hcell).mono ?_
  rintro e w1 ⟨rfl, c1, b1⟩
  have B1 := below2 bA b1
  clear hcell bA b1
  go_wp2_with fail
  refine (four_kept n hexG digOk_great.1 _ _ c1).mono ?_
  rintro e w2 ⟨rfl, c2, b2⟩
  have B2 := below2 B1 b2
  clear c1 b2 B1
  go_wp2_with fail
  refine (four_kept m hexG digOk_great.1 _ _ c2).mono ?_
  rintro e w3 ⟨rfl, c3, b3⟩
  have B1 := below2 B2 b3
  clear c2 b3 B2 c3
  go_wp2_with fail
  refine (unq_is (twoS hexG n m) (encS k) _ (by rw [twoS_size _ digOk_great]; omega) (by rw [twoS_list _ digOk_great, unq_four_pair (dig4_of _ digOk_great n) (dig4_of _ digOk_great m) hnr hmr, HE.out]; rfl)).mono ?_
  rintro e w4 ⟨rfl, b4⟩
  go_wp2_with fail
  refine (quote_is _ _ (by omega)).mono ?_
  rintro e w5 ⟨rfl, b5⟩
  go_wp2_with fail
  refine (unq_of_quote _ _ HV.out (by omega)).mono ?_
  rintro e w6 ⟨rfl, b6⟩
  go_wp2_with fail
  refine (valid_is _ _ true HV.out).mono ?_
  rintro e w7 ⟨rfl, b7⟩
  have hu := HU.out
  go_wp2_with fail
  refine (awake_any _).mono ?_
  rintro e w8 ⟨rfl, b8⟩
  clear hu
  go_wp2_with fail
  go_ret
  exact ⟨rfl, below3 (below3 B1 b4 b5) (below3 b6 b7 b8) (Below.refl _ _)⟩

theorem pointsG_walk (v : Int) (w : World) :
    Calls Try.prog 5 #[.int .i64 v, .bool true] w (TrueBelow w) := by
  have k0 := Int.emod_nonneg v (by omega : (1114112 : Int) ≠ 0)
  have k1 := Int.emod_lt_of_pos v (by omega : (0 : Int) < 1114112)
  obtain ⟨k, hk⟩ : ∃ k : Nat, v % 1114112 = k := ⟨(v % 1114112).toNat, by omega⟩
  have hk2 : k < 1114112 := by omega
  by_cases h1 : k < 55296
  · exact pointsG_lo v k hk hk2 h1 w
  · by_cases h2 : k ≤ 57343
    · exact pointsG_half v k hk hk2 (by omega) w
    · by_cases h3 : k < 65536
      · exact pointsG_hi v k hk hk2 (by omega) h3 w
      · exact pointsG_big v k hk hk2 (by omega) w

theorem runesPoints_walk (v : Int) (g : Bool) (w : World) :
    Calls Try.prog 5 #[.int .i64 v, .bool g] w (TrueBelow w) := by
  cases g with
  | false => exact pointsS_walk v w
  | true => exact pointsG_walk v w

end Go.Proofs.Ytaafnkhemklpeaa
