/-
  refectorylaw01.RunesPoints answers true at every input: the walk.
-/
import Derived.Test.YtaafnkhemklpeaaPoints
import Derived.Test.YtaafnkhemklpeaaFour
import Derived.Test.YtaafnkhemklpeaaEnc
namespace Go.Proofs.Ytaafnkhemklpeaa
open Go.RowKit

def hexG : ByteArray := ⟨#[48, 49, 50, 51, 52, 53, 54, 55, 56, 57, 65, 66, 67, 68, 69, 70]⟩
def dig (H : ByteArray) (d : Nat) : UInt8 := H.data.toList.getD d 0
def DigOk (H : ByteArray) : Prop := H.size = 16 ∧ ∀ d, d < 16 → (dig H d).toNat < 128 ∧ hexV (dig H d).toNat = d

theorem digOk_small : DigOk hexS := by
  refine ⟨rfl, ?_⟩
  intro d h
  have h' : d = 0 ∨ d = 1 ∨ d = 2 ∨ d = 3 ∨ d = 4 ∨ d = 5 ∨ d = 6 ∨ d = 7 ∨ d = 8 ∨ d = 9 ∨ d = 10 ∨ d = 11 ∨ d = 12 ∨ d = 13 ∨ d = 14 ∨ d = 15 := by omega
  rcases h' with rfl | rfl | rfl | rfl | rfl | rfl | rfl | rfl | rfl | rfl | rfl | rfl | rfl | rfl | rfl | rfl <;> decide
theorem digOk_great : DigOk hexG := by
  refine ⟨rfl, ?_⟩
  intro d h
  have h' : d = 0 ∨ d = 1 ∨ d = 2 ∨ d = 3 ∨ d = 4 ∨ d = 5 ∨ d = 6 ∨ d = 7 ∨ d = 8 ∨ d = 9 ∨ d = 10 ∨ d = 11 ∨ d = 12 ∨ d = 13 ∨ d = 14 ∨ d = 15 := by omega
  rcases h' with rfl | rfl | rfl | rfl | rfl | rfl | rfl | rfl | rfl | rfl | rfl | rfl | rfl | rfl | rfl | rfl <;> decide

theorem ext_one (H : ByteArray) (d : Nat) (h : d < H.size) : (H.extract d (d + 1)).data.toList = [H[d]] := by
  rw [Lib.extract_data, drop_cons H d h]
  simp

theorem dig_eq (H : ByteArray) (d : Nat) (h : d < H.size) : H[d] = dig H d := by
  unfold dig
  rw [List.getD_eq_getElem?_getD, List.getElem?_eq_getElem (by simpa using h)]
  rfl

theorem fourS_list (H : ByteArray) (hH : DigOk H) (n : Nat) : (fourS H n).data.toList = [92, 117, dig H (n / 4096 % 16), dig H (n / 256 % 16), dig H (n / 16 % 16), dig H (n % 16)] := by
  have h := hH.1
  unfold fourS
  rw [app_list, app_list, app_list, app_list, ext_one H _ (by omega), ext_one H _ (by omega), ext_one H _ (by omega), ext_one H _ (by omega), dig_eq H _ (by omega), dig_eq H _ (by omega), dig_eq H _ (by omega), dig_eq H _ (by omega)]
  rfl

theorem dig4_of (H : ByteArray) (hH : DigOk H) (n : Nat) : Dig4 n (dig H (n / 4096 % 16)) (dig H (n / 256 % 16)) (dig H (n / 16 % 16)) (dig H (n % 16)) := by
  have g := hH.2
  have k3 := g (n / 4096 % 16) (by omega)
  have k2 := g (n / 256 % 16) (by omega)
  have k1 := g (n / 16 % 16) (by omega)
  have k0 := g (n % 16) (by omega)
  exact ⟨k3.1, k2.1, k1.1, k0.1, k3.2, k2.2, k1.2, k0.2⟩

def oneS (H : ByteArray) (n : Nat) : ByteArray := (⟨#[34]⟩ : ByteArray) ++ fourS H n ++ ⟨#[34]⟩
def twoS (H : ByteArray) (n m : Nat) : ByteArray := (⟨#[34]⟩ : ByteArray) ++ fourS H n ++ fourS H m ++ ⟨#[34]⟩
theorem oneS_list (H : ByteArray) (hH : DigOk H) (n : Nat) : (oneS H n).data.toList = [34, 92, 117, dig H (n / 4096 % 16), dig H (n / 256 % 16), dig H (n / 16 % 16), dig H (n % 16), 34] := by
  unfold oneS
  rw [app_list, app_list, fourS_list H hH]
  rfl
theorem twoS_list (H : ByteArray) (hH : DigOk H) (n m : Nat) : (twoS H n m).data.toList = [34, 92, 117, dig H (n / 4096 % 16), dig H (n / 256 % 16), dig H (n / 16 % 16), dig H (n % 16), 92, 117, dig H (m / 4096 % 16), dig H (m / 256 % 16), dig H (m / 16 % 16), dig H (m % 16), 34] := by
  unfold twoS
  rw [app_list, app_list, app_list, fourS_list H hH, fourS_list H hH]
  rfl
theorem size_of_list (s : ByteArray) (n : Nat) (l : List UInt8) (h : s.data.toList = l) (hl : l.length = n) : s.size = n := by
  have : s.size = s.data.toList.length := rfl
  rw [this, h, hl]

def encS (k : Nat) : ByteArray := ⟨(Lib.encodeRune k).toArray⟩

/-- The closure's call, the box kept. -/
def FourPost (b : Nat) (H : ByteArray) (n : Nat) (w : World) (e : Ending) (w' : World) : Prop :=
  e = .returned (.string (fourS H n)) ∧ w'.cell? ⟨b, 0, none⟩ = some (.string H) ∧ Below w.heap.size w w'

theorem four_kept (n : Nat) (H : ByteArray) (hH : H.size = 16) (b : Nat) (w : World) (hc : w.cell? ⟨b, 0, none⟩ = some (.string H)) :
    Calls Try.prog 21 #[.int .i64 n, .pointer (some ⟨b, 0, none⟩)] w (FourPost b H n w) := by
  refine (four_any n H hH b w hc).mono ?_
  rintro e w' ⟨he, k, rfl⟩
  refine ⟨he, ?_, below_drewN (Below.refl _ _) k⟩
  exact hc

theorem fourS_size (H : ByteArray) (hH : DigOk H) (n : Nat) : (fourS H n).size = 6 := size_of_list _ 6 _ (fourS_list H hH n) rfl
theorem oneS_size (H : ByteArray) (hH : DigOk H) (n : Nat) : (oneS H n).size = 8 := size_of_list _ 8 _ (oneS_list H hH n) rfl
theorem twoS_size (H : ByteArray) (hH : DigOk H) (n m : Nat) : (twoS H n m).size = 14 := size_of_list _ 14 _ (twoS_list H hH n m) rfl

theorem unq_is (s r : ByteArray) (w : World) (hs : s.size ≤ 1000000000) (h : unqP s.data.toList = some r.data.toList) :
    Calls Try.prog 10 #[.string s] w fun e w' => e = .returned (.tuple #[.string r, .bool true]) ∧ Below w.heap.size w w' := by
  refine (unquote_any s w hs).mono ?_
  rintro e w' hp
  rw [h] at hp
  exact ⟨hp.2, hp.1⟩

theorem encS_valid (k : Nat) (hk : k < 1114112) (hh : ¬ (55296 ≤ k ∧ k ≤ 57343)) : Lib.validD (encS k).data.toList = true := enc_valid k hk hh
theorem encS_utf8 (k : Nat) (hk : k < 1114112) (hh : ¬ (55296 ≤ k ∧ k ≤ 57343)) : Utf8.encode (k : Int) = encS k := enc_utf8 k hk hh
theorem encS_size (k : Nat) : (encS k).size ≤ 4 := by
  have := Lib.encodeRuneZ_length (k : Int)
  simp [encS, Lib.encodeRune, ByteArray.size]
  omega

set_option maxHeartbeats 4000000 in
set_option maxRecDepth 100000 in
theorem pointsS_half (v : Int) (k : Nat) (hk : v % 1114112 = k) (hk2 : k < 1114112) (hh : 55296 ≤ k ∧ k ≤ 57343) (w : World) :
    Calls Try.prog 5 #[.int .i64 v, .bool false] w (TrueBelow w) := by
  have HK := Lib.hid hk
  clear hk
  have hcell : (w.alloc (.cells #[.string hexS] 9)).cell? ⟨w.heap.size, 0, none⟩ = some (.string hexS) := by simp
  have bA : Below w.heap.size w (w.alloc (.cells #[.string hexS] 9)) := (Below.refl _ w).alloc (Nat.le_refl _) _
  have f6 : (fourS hexS k).size ≤ 6 := by rw [fourS_size hexS digOk_small]; omega
  have d1 : decide ((55296 : Int) ≤ (k : Int)) = true := by simp; omega
  have d2 : decide ((k : Int) ≤ 57343) = true := by simp; omega
  go_enter Try.func5, Try.ntmps5
  go_wp2_with fail
  refine (place_any _ _ _ (by omega) (by omega)).mono ?_
  rintro e w' ⟨rfl, rfl⟩
  rw [HK.out]
  go_wp2_with fail
  refine (four_kept k hexS digOk_small.1 _ _ hcell).mono ?_
  rintro e w1 ⟨rfl, c1, b1⟩
  have B1 := below2 bA b1
  clear hcell bA b1
  go_wp2_with fail
  refine (unq_none (oneS hexS k) _ (by rw [oneS_size _ digOk_small]; omega) (by rw [oneS_list _ digOk_small]; exact unq_four_half (dig4_of _ digOk_small k) hh)).mono ?_
  rintro e w2 ⟨rfl, b2⟩
  go_wp2_with fail
  refine (awake_any _).mono ?_
  rintro e w3 ⟨rfl, b3⟩
  go_wp2_with fail
  go_ret
  exact ⟨rfl, below3 B1 b2 b3⟩

set_option maxHeartbeats 4000000 in
set_option maxRecDepth 100000 in
theorem pointsS_lo (v : Int) (k : Nat) (hk : v % 1114112 = k) (hk2 : k < 1114112) (hh : k < 55296) (w : World) :
    Calls Try.prog 5 #[.int .i64 v, .bool false] w (TrueBelow w) := by
  have HK := Lib.hid hk
  clear hk
  have hcell : (w.alloc (.cells #[.string hexS] 9)).cell? ⟨w.heap.size, 0, none⟩ = some (.string hexS) := by simp
  have bA : Below w.heap.size w (w.alloc (.cells #[.string hexS] 9)) := (Below.refl _ w).alloc (Nat.le_refl _) _
  have f6 : (fourS hexS k).size ≤ 6 := by rw [fourS_size hexS digOk_small]; omega
  have HV := Lib.hid (encS_valid k hk2 (by omega))
  have HU := Lib.hid (encS_utf8 k hk2 (by omega))
  have hes := encS_size k
  have d1 : decide ((55296 : Int) ≤ (k : Int)) = false := by simp; omega
  have d3 : decide ((65536 : Int) ≤ (k : Int)) = false := by simp; omega
  go_enter Try.func5, Try.ntmps5
  go_wp2_with fail
  refine (place_any _ _ _ (by omega) (by omega)).mono ?_
  rintro e w' ⟨rfl, rfl⟩
  rw [HK.out]
  go_wp2_with fail
  refine (four_kept k hexS digOk_small.1 _ _ hcell).mono ?_
  rintro e w1 ⟨rfl, c1, b1⟩
  have B1 := below2 bA b1
  clear hcell bA b1
  go_wp2_with fail
  refine (unq_is (oneS hexS k) (encS k) _ (by rw [oneS_size _ digOk_small]; omega) (by rw [oneS_list _ digOk_small]; exact unq_four_plain (dig4_of _ digOk_small k) (by omega) (by omega))).mono ?_
  rintro e w4 ⟨rfl, b4⟩
  go_wp2_with fail
  refine (quote_is _ _ (by omega)).mono ?_
  rintro e w5 ⟨rfl, b5⟩
  go_wp2_with fail
  refine (unq_of_quote _ _ HV.out (by omega)).mono ?_
  rintro e w6 ⟨rfl, b6⟩
  go_wp2_with fail
  refine (valid_is _ _ true HV.out).mono ?_
  rintro e w7 ⟨rfl, b7⟩
  have hu := HU.out
  go_wp2_with fail
  refine (awake_any _).mono ?_
  rintro e w8 ⟨rfl, b8⟩
  clear hu
  go_wp2_with fail
  go_ret
  exact ⟨rfl, below3 (below3 B1 b4 b5) (below3 b6 b7 b8) (Below.refl _ _)⟩

set_option maxHeartbeats 4000000 in
set_option maxRecDepth 100000 in
theorem pointsS_hi (v : Int) (k : Nat) (hk : v % 1114112 = k) (hk2 : k < 1114112) (hh : 57344 ≤ k) (hp : k < 65536) (w : World) :
    Calls Try.prog 5 #[.int .i64 v, .bool false] w (TrueBelow w) := by
  have HK := Lib.hid hk
  clear hk
  have hcell : (w.alloc (.cells #[.string hexS] 9)).cell? ⟨w.heap.size, 0, none⟩ = some (.string hexS) := by simp
  have bA : Below w.heap.size w (w.alloc (.cells #[.string hexS] 9)) := (Below.refl _ w).alloc (Nat.le_refl _) _
  have f6 : (fourS hexS k).size ≤ 6 := by rw [fourS_size hexS digOk_small]; omega
  have HV := Lib.hid (encS_valid k hk2 (by omega))
  have HU := Lib.hid (encS_utf8 k hk2 (by omega))
  have hes := encS_size k
  have d1 : decide ((55296 : Int) ≤ (k : Int)) = true := by simp; omega
  have d2 : decide ((k : Int) ≤ 57343) = false := by simp; omega
  have d3 : decide ((65536 : Int) ≤ (k : Int)) = false := by simp; omega
  go_enter Try.func5, Try.ntmps5
  go_wp2_with fail
  refine (place_any _ _ _ (by omega) (by omega)).mono ?_
  rintro e w' ⟨rfl, rfl⟩
  rw [HK.out]
  go_wp2_with fail
  refine (four_kept k hexS digOk_small.1 _ _ hcell).mono ?_
  rintro e w1 ⟨rfl, c1, b1⟩
  have B1 := below2 bA b1
  clear hcell bA b1
  go_wp2_with fail
  refine (unq_is (oneS hexS k) (encS k) _ (by rw [oneS_size _ digOk_small]; omega) (by rw [oneS_list _ digOk_small]; exact unq_four_plain (dig4_of _ digOk_small k) (by omega) (by omega))).mono ?_
  rintro e w4 ⟨rfl, b4⟩
  go_wp2_with fail
  refine (quote_is _ _ (by omega)).mono ?_
  rintro e w5 ⟨rfl, b5⟩
  go_wp2_with fail
  refine (unq_of_quote _ _ HV.out (by omega)).mono ?_
  rintro e w6 ⟨rfl, b6⟩
  go_wp2_with fail
  refine (valid_is _ _ true HV.out).mono ?_
  rintro e w7 ⟨rfl, b7⟩
  have hu := HU.out
  go_wp2_with fail
  refine (awake_any _).mono ?_
  rintro e w8 ⟨rfl, b8⟩
  clear hu
  go_wp2_with fail
  go_ret
  exact ⟨rfl, below3 (below3 B1 b4 b5) (below3 b6 b7 b8) (Below.refl _ _)⟩

set_option maxHeartbeats 4000000 in
set_option maxRecDepth 100000 in
theorem pointsS_big (v : Int) (k : Nat) (hk : v % 1114112 = k) (hk2 : k < 1114112) (hp : 65536 ≤ k) (w : World) :
    Calls Try.prog 5 #[.int .i64 v, .bool false] w (TrueBelow w) := by
  have HK := Lib.hid hk
  clear hk
  have hcell : (w.alloc (.cells #[.string hexS] 9)).cell? ⟨w.heap.size, 0, none⟩ = some (.string hexS) := by simp
  have bA : Below w.heap.size w (w.alloc (.cells #[.string hexS] 9)) := (Below.refl _ w).alloc (Nat.le_refl _) _
  have f6 : (fourS hexS k).size ≤ 6 := by rw [fourS_size hexS digOk_small]; omega
  have HV := Lib.hid (encS_valid k hk2 (by omega))
  have HU := Lib.hid (encS_utf8 k hk2 (by omega))
  have hes := encS_size k
  have d1 : decide ((55296 : Int) ≤ (k : Int)) = true := by simp; omega
  have d2 : decide ((k : Int) ≤ 57343) = false := by simp; omega
  have d3 : decide ((65536 : Int) ≤ (k : Int)) = true := by simp; omega
  obtain ⟨n, hn⟩ : ∃ n : Nat, (55296 : Int) + ((k : Int) - 65536) / 1024 = n := ⟨55296 + (k - 65536) / 1024, by omega⟩
  obtain ⟨m, hm⟩ : ∃ m : Nat, (56320 : Int) + bits .and .i64 ((k : Int) - 65536) 1023 = m := ⟨56320 + (k - 65536) % 1024, by rw [and_1023]; omega⟩
  have hnr : 55296 ≤ n ∧ n ≤ 56319 := by omega
  have hmr : 56320 ≤ m ∧ m ≤ 57343 := by rw [and_1023] at hm; omega
  have HE := Lib.hid (show (65536 : Int) + ((n : Int) - 55296) * 1024 + ((m : Int) - 56320) = k by rw [and_1023] at hm; omega)
  have g6 : (fourS hexS n).size ≤ 6 := by rw [fourS_size hexS digOk_small]; omega
  have h6 : (fourS hexS m).size ≤ 6 := by rw [fourS_size hexS digOk_small]; omega
  have z7 : ((⟨#[34]⟩ : ByteArray) ++ fourS hexS n).size ≤ 7 := by rw [ByteArray.size_append]; have : (⟨#[34]⟩ : ByteArray).size = 1 := rfl; omega
  have z13 : ((⟨#[34]⟩ : ByteArray) ++ fourS hexS n ++ fourS hexS m).size ≤ 13 := by rw [ByteArray.size_append]; omega
  go_enter Try.func5, Try.ntmps5
  go_wp2_with fail
  refine (place_any _ _ _ (by omega) (by omega)).mono ?_
  rintro e w' ⟨rfl, rfl⟩
  rw [HK.out]
  go_wp2_with fail
  refine (four_kept k hexS digOk_small.1 _ _ hcell).mono ?_
  rintro e w1 ⟨rfl, c1, b1⟩
  have B1 := below2 bA b1
  clear hcell bA b1
  go_wp2_with fail
  refine (four_kept n hexS digOk_small.1 _ _ c1).mono ?_
  rintro e w2 ⟨rfl, c2, b2⟩
  have B2 := below2 B1 b2
  clear c1 b2 B1
  go_wp2_with fail
  refine (four_kept m hexS digOk_small.1 _ _ c2).mono ?_
  rintro e w3 ⟨rfl, c3, b3⟩
  have B1 := below2 B2 b3
  clear c2 b3 B2 c3
  go_wp2_with fail
  refine (unq_is (twoS hexS n m) (encS k) _ (by rw [twoS_size _ digOk_small]; omega) (by rw [twoS_list _ digOk_small, unq_four_pair (dig4_of _ digOk_small n) (dig4_of _ digOk_small m) hnr hmr, HE.out]; rfl)).mono ?_
  rintro e w4 ⟨rfl, b4⟩
  go_wp2_with fail
  refine (quote_is _ _ (by omega)).mono ?_
  rintro e w5 ⟨rfl, b5⟩
  go_wp2_with fail
  refine (unq_of_quote _ _ HV.out (by omega)).mono ?_
  rintro e w6 ⟨rfl, b6⟩
  go_wp2_with fail
  refine (valid_is _ _ true HV.out).mono ?_
  rintro e w7 ⟨rfl, b7⟩
  have hu := HU.out
  go_wp2_with fail
  refine (awake_any _).mono ?_
  rintro e w8 ⟨rfl, b8⟩
  clear hu
  go_wp2_with fail
  go_ret
  exact ⟨rfl, below3 (below3 B1 b4 b5) (below3 b6 b7 b8) (Below.refl _ _)⟩

theorem pointsS_walk (v : Int) (w : World) :
    Calls Try.prog 5 #[.int .i64 v, .bool false] w (TrueBelow w) := by
  have k0 := Int.emod_nonneg v (by omega : (1114112 : Int) ≠ 0)
  have k1 := Int.emod_lt_of_pos v (by omega : (0 : Int) < 1114112)
  obtain ⟨k, hk⟩ : ∃ k : Nat, v % 1114112 = k := ⟨(v % 1114112).toNat, by omega⟩
  have hk2 : k < 1114112 := by omega
  by_cases h1 : k < 55296
  · exact pointsS_lo v k hk hk2 h1 w
  · by_cases h2 : k ≤ 57343
    · exact pointsS_half v k hk hk2 (by omega) w
    · by_cases h3 : k < 65536
      · exact pointsS_hi v k hk hk2 (by omega) h3 w
      · exact pointsS_big v k hk hk2 (by omega) w

end Go.Proofs.Ytaafnkhemklpeaa
