/-
  What refectoryref01.rune1 and Valid answer.
-/
import Derived.Test.YtakmkhkbeabgcaaDoorQuote
import Derived.Test.YtakmkhkbeabgcaaDoorPure2
import Derived.IntWalk
import Derived.IntWalk
namespace Go.Proofs.YtakmkhkbeabgcaaDoor
open Go.RowKit
open Go.Lib (decodeN decode_at decodeL_drop)

/-- The code point at a place and its bytes; (0, 0): none that is right. -/
def r1 (s : ByteArray) (i : Nat) : Nat × Nat := if badAt (s.data.toList.drop i) then (0, 0) else Utf8.decode s i

/-- The value behind k further bytes. -/
def vAt (s : ByteArray) (i v0 : Nat) : Nat → Nat
  | 0 => v0
  | k + 1 => vAt s i v0 k * 64 + (s.get! (i + (k + 1))).toNat % 64

def Tup (a b : Int) (w : World) (e : Ending) (w' : World) : Prop := e = .returned (.tuple #[.int .i64 a, .int .i64 b]) ∧ w = w'

theorem get_eq (s : ByteArray) (i : Nat) (h : i < s.size) : s.get! i = s[i] := by
  simp [ByteArray.get!, getElem!_pos, h]
  rfl

theorem vAt_le (s : ByteArray) (i v0 : Nat) (h : v0 ≤ 31) : ∀ k, k ≤ 3 → vAt s i v0 k ≤ 10000000 := by
  intro k hk
  have h' : k = 0 ∨ k = 1 ∨ k = 2 ∨ k = 3 := by omega
  have b1 : (s.get! (i + (0 + 1))).toNat % 64 < 64 := Nat.mod_lt _ (by omega)
  have b2 : (s.get! (i + (1 + 1))).toNat % 64 < 64 := Nat.mod_lt _ (by omega)
  have b3 : (s.get! (i + (2 + 1))).toNat % 64 < 64 := Nat.mod_lt _ (by omega)
  rcases h' with rfl | rfl | rfl | rfl <;> simp only [vAt] <;> omega

-- GEN
def by1 (s : ByteArray) (i k : Nat) : Nat := (s.get! (i + k)).toNat
theorem by1_lt (s : ByteArray) (i k : Nat) : by1 s i k < 256 := (s.get! (i + k)).toNat_lt
theorem by1_at (s : ByteArray) (i k : Nat) (h : i + k < s.size) : (s[i + k]'h).toNat = by1 s i k := by
  unfold by1; rw [get_eq s (i + k) h]
theorem by1_zero (s : ByteArray) (i : Nat) (h : i < s.size) : (s[i]'h).toNat = by1 s i 0 := by
  unfold by1; rw [Nat.add_zero, get_eq s i h]

theorem r1_N (s : ByteArray) (i : Nat) : r1 s i = if (decodeN (s.size - i) (by1 s i 0) (by1 s i 1) (by1 s i 2) (by1 s i 3)).1 = 65533 ∧ (decodeN (s.size - i) (by1 s i 0) (by1 s i 1) (by1 s i 2) (by1 s i 3)).2 = 1 then (0, 0) else decodeN (s.size - i) (by1 s i 0) (by1 s i 1) (by1 s i 2) (by1 s i 3) := by
  have e : Utf8.decode s i = decodeN (s.size - i) (by1 s i 0) (by1 s i 1) (by1 s i 2) (by1 s i 3) := decode_at s i
  unfold r1 badAt
  rw [decodeL_drop, e]
  split
  · rename_i h
    rw [if_pos (by simpa using h)]
  · rename_i h
    rw [if_neg (by simpa using h)]

theorem r1_bad (s : ByteArray) (i : Nat) (h : decodeN (s.size - i) (by1 s i 0) (by1 s i 1) (by1 s i 2) (by1 s i 3) = (65533, 1)) : r1 s i = (0, 0) := by
  rw [r1_N, h, if_pos ⟨rfl, rfl⟩]
theorem r1_good (s : ByteArray) (i v n : Nat) (h : decodeN (s.size - i) (by1 s i 0) (by1 s i 1) (by1 s i 2) (by1 s i 3) = (v, n)) (hv : 2 ≤ n) : r1 s i = (v, n) := by
  rw [r1_N, h, if_neg (by simp only; omega)]

theorem vAt1 (s : ByteArray) (i v0 : Nat) : vAt s i v0 1 = v0 * 64 + by1 s i 1 % 64 := rfl
theorem vAt2 (s : ByteArray) (i v0 : Nat) : vAt s i v0 2 = (v0 * 64 + by1 s i 1 % 64) * 64 + by1 s i 2 % 64 := rfl
theorem vAt3 (s : ByteArray) (i v0 : Nat) : vAt s i v0 3 = ((v0 * 64 + by1 s i 1 % 64) * 64 + by1 s i 2 % 64) * 64 + by1 s i 3 % 64 := rfl

/-- A further byte that is none. -/
theorem bad_cont (m b0 b1 b2 b3 : Nat) (h0 : 128 ≤ b0) (h : (194 ≤ b0 ∧ b0 ≤ 223 ∧ (m < 2 ∨ b1 / 64 ≠ 2)) ∨ (224 ≤ b0 ∧ b0 ≤ 239 ∧ (m < 3 ∨ b1 / 64 ≠ 2 ∨ b2 / 64 ≠ 2)) ∨ (240 ≤ b0 ∧ b0 ≤ 247 ∧ (m < 4 ∨ b1 / 64 ≠ 2 ∨ b2 / 64 ≠ 2 ∨ b3 / 64 ≠ 2)) ∨ b0 < 192 ∨ 248 ≤ b0) : decodeN m b0 b1 b2 b3 = (65533, 1) := by
  unfold decodeN
  rw [if_neg (by omega), if_neg (by omega), if_neg (by omega), if_neg (by omega)]

theorem good2 (m b0 b1 b2 b3 : Nat) (h : 194 ≤ b0 ∧ b0 ≤ 223) (hm : 2 ≤ m) (c1 : b1 / 64 = 2) : decodeN m b0 b1 b2 b3 = (b0 % 32 * 64 + b1 % 64, 2) := by
  unfold decodeN
  rw [if_neg (by omega), if_pos (by omega), if_pos (by omega)]
theorem low2 (m b0 b1 b2 b3 : Nat) (h : 192 ≤ b0 ∧ b0 < 194) : decodeN m b0 b1 b2 b3 = (65533, 1) := by
  unfold decodeN
  rw [if_neg (by omega)]
  by_cases c : b0 / 32 = 6 ∧ (1 < m ∧ b1 / 64 = 2)
  · rw [if_pos c, if_neg (by omega)]
  · rw [if_neg c, if_neg (by omega), if_neg (by omega)]
theorem good3 (m b0 b1 b2 b3 : Nat) (h : 224 ≤ b0 ∧ b0 ≤ 239) (hm : 3 ≤ m) (c1 : b1 / 64 = 2) (c2 : b2 / 64 = 2) : decodeN m b0 b1 b2 b3 = if 2048 ≤ (b0 % 16 * 64 + b1 % 64) * 64 + b2 % 64 ∧ ¬ (55296 ≤ (b0 % 16 * 64 + b1 % 64) * 64 + b2 % 64 ∧ (b0 % 16 * 64 + b1 % 64) * 64 + b2 % 64 ≤ 57343) then ((b0 % 16 * 64 + b1 % 64) * 64 + b2 % 64, 3) else (65533, 1) := by
  unfold decodeN
  rw [if_neg (by omega), if_neg (by omega), if_pos (by omega)]
  have e : b0 % 16 * 4096 + b1 % 64 * 64 + b2 % 64 = (b0 % 16 * 64 + b1 % 64) * 64 + b2 % 64 := by omega
  rw [e]
  by_cases c : 2048 ≤ (b0 % 16 * 64 + b1 % 64) * 64 + b2 % 64 ∧ ¬ (55296 ≤ (b0 % 16 * 64 + b1 % 64) * 64 + b2 % 64 ∧ (b0 % 16 * 64 + b1 % 64) * 64 + b2 % 64 ≤ 57343)
  · rw [if_pos (by omega), if_pos c]
  · rw [if_neg (by omega), if_neg c]
theorem good4 (m b0 b1 b2 b3 : Nat) (h : 240 ≤ b0 ∧ b0 ≤ 247) (hm : 4 ≤ m) (c1 : b1 / 64 = 2) (c2 : b2 / 64 = 2) (c3 : b3 / 64 = 2) : decodeN m b0 b1 b2 b3 = if 65536 ≤ ((b0 % 8 * 64 + b1 % 64) * 64 + b2 % 64) * 64 + b3 % 64 ∧ ((b0 % 8 * 64 + b1 % 64) * 64 + b2 % 64) * 64 + b3 % 64 ≤ 1114111 then (((b0 % 8 * 64 + b1 % 64) * 64 + b2 % 64) * 64 + b3 % 64, 4) else (65533, 1) := by
  unfold decodeN
  rw [if_neg (by omega), if_neg (by omega), if_neg (by omega), if_pos (by omega)]
  have e : b0 % 8 * 262144 + b1 % 64 * 4096 + b2 % 64 * 64 + b3 % 64 = ((b0 % 8 * 64 + b1 % 64) * 64 + b2 % 64) * 64 + b3 % 64 := by omega
  rw [e]
  by_cases c : 65536 ≤ ((b0 % 8 * 64 + b1 % 64) * 64 + b2 % 64) * 64 + b3 % 64 ∧ ((b0 % 8 * 64 + b1 % 64) * 64 + b2 % 64) * 64 + b3 % 64 ≤ 1114111
  · rw [if_pos (by omega), if_pos c]
  · rw [if_neg (by omega), if_neg c]

theorem m192 (b : Nat) (h : b < 256) : bits .and .u8 (b : Int) 192 = ((b / 64 * 64 : Nat) : Int) := by
  have e := u8_and_nat b 192 h (by omega)
  rw [nat_hi8_6, Nat.mod_eq_of_lt h] at e
  exact e
theorem m63 (b : Nat) (h : b < 256) : bits .and .u8 (b : Int) 63 = ((b % 64 : Nat) : Int) := by
  have e := u8_and_nat b 63 h (by omega)
  rw [nat_mask6] at e
  exact e
theorem mOr (v b : Nat) (hv : v ≤ 10000000) (hb : b < 64) : bits .or .i64 ((v : Int) * 64) (b : Int) = ((v * 64 + b : Nat) : Int) := by
  rw [bits_join .i64 40 (by decide) (fun n h0 h1 => by rw [IntKind.wrap_i64]; omega) 6 _ _ (by omega) (by omega) (by omega) (by omega) (by omega) (by omega)]
  omega
theorem mMask (n : Int) : bits .and .i64 n 31 = n % 32 ∧ bits .and .i64 n 15 = n % 16 ∧ bits .and .i64 n 7 = n % 8 := by
  have key : ∀ k : Nat, k ≤ 8 → ∀ m : Int, (BitVec.ofInt 64 m).toNat = 2 ^ k - 1 → bits .and .i64 n m = n % 2 ^ k := by
    intro k hk m hm
    have e : (BitVec.ofInt 64 n &&& BitVec.ofInt 64 m).toNat = (n % ((2 ^ 64 : Nat) : Int)).toNat % 2 ^ k := by
      rw [BitVec.toNat_and, BitVec.toNat_ofInt, hm, Nat.and_two_pow_sub_one_eq_mod]
    show IntKind.i64.wrap ((BitVec.ofInt 64 n &&& BitVec.ofInt 64 m).toNat : Nat) = n % 2 ^ k
    rw [e, IntKind.wrap_i64]
    have h' : k = 0 ∨ k = 1 ∨ k = 2 ∨ k = 3 ∨ k = 4 ∨ k = 5 ∨ k = 6 ∨ k = 7 ∨ k = 8 := by omega
    rcases h' with rfl | rfl | rfl | rfl | rfl | rfl | rfl | rfl | rfl <;> omega
  exact ⟨key 5 (by omega) 31 (by decide), key 4 (by omega) 15 (by decide), key 3 (by omega) 7 (by decide)⟩

theorem tup_mk {a b : Nat} {p : Nat × Nat} (w : World) (h : p = (a, b)) : Tup p.1 p.2 w (.returned (.tuple #[.int .i64 a, .int .i64 b])) w := by
  subst h; exact ⟨rfl, rfl⟩

set_option maxHeartbeats 4000000 in
set_option maxRecDepth 100000 in
theorem rune1_2 (s : ByteArray) (i : Nat) (hs : s.size ≤ 1000000000) (h : i < s.size) (w : World) (h1 : 194 ≤ by1 s i 0) (h2 : by1 s i 0 ≤ 223) :
    Calls Tryd.prog 90 #[.string s, .int .i64 i] w (Tup (r1 s i).1 (r1 s i).2 w) := by
  have hb0 := by1_zero s i h
  have d1 : decide ((by1 s i 0 : Int) < 128) = false := by simp; omega
  have d2 : decide ((194 : Int) ≤ (by1 s i 0 : Int)) = true := by simp; omega
  have d3 : decide ((by1 s i 0 : Int) ≤ 223) = true := by simp; omega
  have m0 : bits .and .i64 (by1 s i 0 : Int) 31 = ((by1 s i 0 % 32 : Nat) : Int) := by rw [(mMask _).1]; omega
  by_cases hn : i + 2 ≤ s.size
  · have dn : decide ((s.size : Int) < (i : Int) + 2) = false := by simp; omega
    go_enter Tryd.func90, Tryd.ntmps90
    go_wp2_with fail
    go_loop [8, 9] (fun v k => ∃ j : Nat, j + 1 ≤ 2 ∧ k = .int .i64 ((j : Int) + 1) ∧ v = .int .i64 (vAt s i (by1 s i 0 % 32) j : Nat) ∧ Hid (∀ q, 1 ≤ q → q < j + 1 → by1 s i q / 64 = 2)) (fun _ k => 2 - (intOf k).toNat)
    case atStart => exact ⟨0, by omega, rfl, rfl, Lib.hid (fun q h1 h2 => by omega)⟩
    case round =>
      obtain ⟨j, hj, rfl, rfl, HQ⟩ := hrel
      have hv := vAt_le s i (by1 s i 0 % 32) (by omega) j (by omega)
      by_cases hlt : j + 1 < 2
      · have hi : i + (j + 1) < s.size := by omega
        have hbj := by1_at s i (j + 1) hi
        have hbl := by1_lt s i (j + 1)
        have e1 := m192 (by1 s i (j + 1)) hbl
        have e2 := m63 (by1 s i (j + 1)) hbl
        have e3 := mOr (vAt s i (by1 s i 0 % 32) j) (by1 s i (j + 1) % 64) hv (by omega)
        have HV := Lib.hid (show vAt s i (by1 s i 0 % 32) (j + 1) = vAt s i (by1 s i 0 % 32) j * 64 + by1 s i (j + 1) % 64 from rfl)
        have hy : by1 s i (j + 1) % 64 < 64 := by omega
        by_cases hc : by1 s i (j + 1) / 64 = 2
        · have f1 : (((by1 s i (j + 1) / 64 * 64 : Nat) : Int) != 128) = false := by rw [hc]; rfl
          have HC := Lib.hid hc
          clear hc
          generalize by1 s i (j + 1) / 64 * 64 = X at *
          generalize by1 s i (j + 1) % 64 = Y at *
          generalize vAt s i (by1 s i 0 % 32) j = V at *
          go_wp2_with fail
          go_round
          case rel =>
            refine ⟨j + 1, by omega, by go_num, by rw [HV.out]; go_num, Lib.hid fun q q1 q2 => ?_⟩
            by_cases hqj : q = j + 1
            · rw [hqj]; exact HC.out
            · exact HQ.out q q1 (by omega)
          case measure => simp [intOf]; omega
        · have f1 : (((by1 s i (j + 1) / 64 * 64 : Nat) : Int) != 128) = true := by simp; omega
          have HB := Lib.hid (show r1 s i = (0, 0) from r1_bad s i (bad_cont _ _ _ _ _ (by omega) (by
            have : j = 0 := by omega
            subst this
            have : by1 s i 1 / 64 ≠ 2 := hc
            omega)))
          clear hc
          generalize by1 s i (j + 1) / 64 * 64 = X at *
          go_wp2_with fail
          go_ret2
          exact tup_mk w HB.out
      · have hje : j = 1 := by omega
        subst hje
        have HG := Lib.hid (r1_good s i (vAt s i (by1 s i 0 % 32) 1) 2 (by rw [vAt1]; exact good2 _ _ _ _ _ ⟨h1, h2⟩ (by omega) (HQ.out 1 (by omega) (by omega))) (by omega))
        have hvl : vAt s i (by1 s i 0 % 32) 1 < 2048 := by rw [vAt1]; omega
        generalize vAt s i (by1 s i 0 % 32) 1 = V at *
        have t1 : decide ((55296 : Int) ≤ (V : Int)) = false := by simp; omega
        go_wp2_with fail
        go_ret2
        exact tup_mk w HG.out
  · have dn : decide ((s.size : Int) < (i : Int) + 2) = true := by simp; omega
    have HB := Lib.hid (show r1 s i = (0, 0) from r1_bad s i (bad_cont _ _ _ _ _ (by omega) (by omega)))
    go_enter Tryd.func90, Tryd.ntmps90
    go_wp2_with fail
    go_ret2
    exact tup_mk w HB.out

set_option maxHeartbeats 4000000 in
set_option maxRecDepth 100000 in
theorem rune1_3 (s : ByteArray) (i : Nat) (hs : s.size ≤ 1000000000) (h : i < s.size) (w : World) (h1 : 224 ≤ by1 s i 0) (h2 : by1 s i 0 ≤ 239) :
    Calls Tryd.prog 90 #[.string s, .int .i64 i] w (Tup (r1 s i).1 (r1 s i).2 w) := by
  have hb0 := by1_zero s i h
  have d1 : decide ((by1 s i 0 : Int) < 128) = false := by simp; omega
  have d2 : decide ((194 : Int) ≤ (by1 s i 0 : Int)) = true := by simp; omega
  have d3 : decide ((by1 s i 0 : Int) ≤ 223) = false := by simp; omega
  have d4 : decide ((224 : Int) ≤ (by1 s i 0 : Int)) = true := by simp; omega
  have d5 : decide ((by1 s i 0 : Int) ≤ 239) = true := by simp; omega
  have m0 : bits .and .i64 (by1 s i 0 : Int) 15 = ((by1 s i 0 % 16 : Nat) : Int) := by rw [(mMask _).2.1]; omega
  by_cases hn : i + 3 ≤ s.size
  · have dn : decide ((s.size : Int) < (i : Int) + 3) = false := by simp; omega
    go_enter Tryd.func90, Tryd.ntmps90
    go_wp2_with fail
    go_loop [8, 9] (fun v k => ∃ j : Nat, j + 1 ≤ 3 ∧ k = .int .i64 ((j : Int) + 1) ∧ v = .int .i64 (vAt s i (by1 s i 0 % 16) j : Nat) ∧ Hid (∀ q, 1 ≤ q → q < j + 1 → by1 s i q / 64 = 2)) (fun _ k => 3 - (intOf k).toNat)
    case atStart => exact ⟨0, by omega, rfl, rfl, Lib.hid (fun q h1 h2 => by omega)⟩
    case round =>
      obtain ⟨j, hj, rfl, rfl, HQ⟩ := hrel
      have hv := vAt_le s i (by1 s i 0 % 16) (by omega) j (by omega)
      by_cases hlt : j + 1 < 3
      · have hi : i + (j + 1) < s.size := by omega
        have hbj := by1_at s i (j + 1) hi
        have hbl := by1_lt s i (j + 1)
        have e1 := m192 (by1 s i (j + 1)) hbl
        have e2 := m63 (by1 s i (j + 1)) hbl
        have e3 := mOr (vAt s i (by1 s i 0 % 16) j) (by1 s i (j + 1) % 64) hv (by omega)
        have HV := Lib.hid (show vAt s i (by1 s i 0 % 16) (j + 1) = vAt s i (by1 s i 0 % 16) j * 64 + by1 s i (j + 1) % 64 from rfl)
        have hy : by1 s i (j + 1) % 64 < 64 := by omega
        by_cases hc : by1 s i (j + 1) / 64 = 2
        · have f1 : (((by1 s i (j + 1) / 64 * 64 : Nat) : Int) != 128) = false := by rw [hc]; rfl
          have HC := Lib.hid hc
          clear hc
          generalize by1 s i (j + 1) / 64 * 64 = X at *
          generalize by1 s i (j + 1) % 64 = Y at *
          generalize vAt s i (by1 s i 0 % 16) j = V at *
          go_wp2_with fail
          go_round
          case rel =>
            refine ⟨j + 1, by omega, by go_num, by rw [HV.out]; go_num, Lib.hid fun q q1 q2 => ?_⟩
            by_cases hqj : q = j + 1
            · rw [hqj]; exact HC.out
            · exact HQ.out q q1 (by omega)
          case measure => simp [intOf]; omega
        · have f1 : (((by1 s i (j + 1) / 64 * 64 : Nat) : Int) != 128) = true := by simp; omega
          have HB := Lib.hid (show r1 s i = (0, 0) from r1_bad s i (bad_cont _ _ _ _ _ (by omega) (by
            have : j = 0 ∨ j = 1 := by omega
            rcases this with rfl | rfl
            · have : by1 s i 1 / 64 ≠ 2 := hc
              omega
            · have : by1 s i 2 / 64 ≠ 2 := hc
              omega)))
          clear hc
          generalize by1 s i (j + 1) / 64 * 64 = X at *
          go_wp2_with fail
          go_ret2
          exact tup_mk w HB.out
      · have hje : j = 2 := by omega
        subst hje
        have hg := good3 (s.size - i) (by1 s i 0) (by1 s i 1) (by1 s i 2) (by1 s i 3) ⟨h1, h2⟩ (by omega) (HQ.out 1 (by omega) (by omega)) (HQ.out 2 (by omega) (by omega))
        rw [← vAt2] at hg
        have HG := Lib.hid hg
        clear hg
        generalize vAt s i (by1 s i 0 % 16) 2 = V at *
        by_cases hlow : V < 2048
        · have HB := Lib.hid (show r1 s i = (0, 0) from r1_bad s i (by rw [HG.out, if_neg (by omega)]))
          have t1 : decide ((V : Int) < 2048) = true := by simp; omega
          go_wp2_with fail
          go_ret2
          exact tup_mk w HB.out
        · have t1 : decide ((V : Int) < 2048) = false := by simp; omega
          by_cases hsl : 55296 ≤ V
          · have t2 : decide ((55296 : Int) ≤ (V : Int)) = true := by simp; omega
            by_cases hsh : V ≤ 57343
            · have t3 : decide ((V : Int) ≤ 57343) = true := by simp; omega
              have HB := Lib.hid (show r1 s i = (0, 0) from r1_bad s i (by rw [HG.out, if_neg (by omega)]))
              go_wp2_with fail
              go_ret2
              exact tup_mk w HB.out
            · have t3 : decide ((V : Int) ≤ 57343) = false := by simp; omega
              have HB := Lib.hid (r1_good s i V 3 (by rw [HG.out, if_pos (by omega)]) (by omega))
              go_wp2_with fail
              go_ret2
              exact tup_mk w HB.out
          · have t2 : decide ((55296 : Int) ≤ (V : Int)) = false := by simp; omega
            have HB := Lib.hid (r1_good s i V 3 (by rw [HG.out, if_pos (by omega)]) (by omega))
            go_wp2_with fail
            go_ret2
            exact tup_mk w HB.out
  · have dn : decide ((s.size : Int) < (i : Int) + 3) = true := by simp; omega
    have HB := Lib.hid (show r1 s i = (0, 0) from r1_bad s i (bad_cont _ _ _ _ _ (by omega) (by omega)))
    go_enter Tryd.func90, Tryd.ntmps90
    go_wp2_with fail
    go_ret2
    exact tup_mk w HB.out

set_option maxHeartbeats 4000000 in
set_option maxRecDepth 100000 in
theorem rune1_4 (s : ByteArray) (i : Nat) (hs : s.size ≤ 1000000000) (h : i < s.size) (w : World) (h1 : 240 ≤ by1 s i 0) (h2 : by1 s i 0 ≤ 244) :
    Calls Tryd.prog 90 #[.string s, .int .i64 i] w (Tup (r1 s i).1 (r1 s i).2 w) := by
  have hb0 := by1_zero s i h
  have d1 : decide ((by1 s i 0 : Int) < 128) = false := by simp; omega
  have d2 : decide ((194 : Int) ≤ (by1 s i 0 : Int)) = true := by simp; omega
  have d3 : decide ((by1 s i 0 : Int) ≤ 223) = false := by simp; omega
  have d4 : decide ((224 : Int) ≤ (by1 s i 0 : Int)) = true := by simp; omega
  have d5 : decide ((by1 s i 0 : Int) ≤ 239) = false := by simp; omega
  have d6 : decide ((240 : Int) ≤ (by1 s i 0 : Int)) = true := by simp; omega
  have d7 : decide ((by1 s i 0 : Int) ≤ 244) = true := by simp; omega
  have m0 : bits .and .i64 (by1 s i 0 : Int) 7 = ((by1 s i 0 % 8 : Nat) : Int) := by rw [(mMask _).2.2]; omega
  by_cases hn : i + 4 ≤ s.size
  · have dn : decide ((s.size : Int) < (i : Int) + 4) = false := by simp; omega
    go_enter Tryd.func90, Tryd.ntmps90
    go_wp2_with fail
    go_loop [8, 9] (fun v k => ∃ j : Nat, j + 1 ≤ 4 ∧ k = .int .i64 ((j : Int) + 1) ∧ v = .int .i64 (vAt s i (by1 s i 0 % 8) j : Nat) ∧ Hid (∀ q, 1 ≤ q → q < j + 1 → by1 s i q / 64 = 2)) (fun _ k => 4 - (intOf k).toNat)
    case atStart => exact ⟨0, by omega, rfl, rfl, Lib.hid (fun q h1 h2 => by omega)⟩
    case round =>
      obtain ⟨j, hj, rfl, rfl, HQ⟩ := hrel
      have hv := vAt_le s i (by1 s i 0 % 8) (by omega) j (by omega)
      by_cases hlt : j + 1 < 4
      · have hi : i + (j + 1) < s.size := by omega
        have hbj := by1_at s i (j + 1) hi
        have hbl := by1_lt s i (j + 1)
        have e1 := m192 (by1 s i (j + 1)) hbl
        have e2 := m63 (by1 s i (j + 1)) hbl
        have e3 := mOr (vAt s i (by1 s i 0 % 8) j) (by1 s i (j + 1) % 64) hv (by omega)
        have HV := Lib.hid (show vAt s i (by1 s i 0 % 8) (j + 1) = vAt s i (by1 s i 0 % 8) j * 64 + by1 s i (j + 1) % 64 from rfl)
        have hy : by1 s i (j + 1) % 64 < 64 := by omega
        by_cases hc : by1 s i (j + 1) / 64 = 2
        · have f1 : (((by1 s i (j + 1) / 64 * 64 : Nat) : Int) != 128) = false := by rw [hc]; rfl
          have HC := Lib.hid hc
          clear hc
          generalize by1 s i (j + 1) / 64 * 64 = X at *
          generalize by1 s i (j + 1) % 64 = Y at *
          generalize vAt s i (by1 s i 0 % 8) j = V at *
          go_wp2_with fail
          go_round
          case rel =>
            refine ⟨j + 1, by omega, by go_num, by rw [HV.out]; go_num, Lib.hid fun q q1 q2 => ?_⟩
            by_cases hqj : q = j + 1
            · rw [hqj]; exact HC.out
            · exact HQ.out q q1 (by omega)
          case measure => simp [intOf]; omega
        · have f1 : (((by1 s i (j + 1) / 64 * 64 : Nat) : Int) != 128) = true := by simp; omega
          have HB := Lib.hid (show r1 s i = (0, 0) from r1_bad s i (bad_cont _ _ _ _ _ (by omega) (by
            have : j = 0 ∨ j = 1 ∨ j = 2 := by omega
            rcases this with rfl | rfl | rfl
            · have : by1 s i 1 / 64 ≠ 2 := hc
              omega
            · have : by1 s i 2 / 64 ≠ 2 := hc
              omega
            · have : by1 s i 3 / 64 ≠ 2 := hc
              omega)))
          clear hc
          generalize by1 s i (j + 1) / 64 * 64 = X at *
          go_wp2_with fail
          go_ret2
          exact tup_mk w HB.out
      · have hje : j = 3 := by omega
        subst hje
        have hg := good4 (s.size - i) (by1 s i 0) (by1 s i 1) (by1 s i 2) (by1 s i 3) ⟨by omega, by omega⟩ (by omega) (HQ.out 1 (by omega) (by omega)) (HQ.out 2 (by omega) (by omega)) (HQ.out 3 (by omega) (by omega))
        rw [← vAt3] at hg
        have HG := Lib.hid hg
        clear hg
        generalize vAt s i (by1 s i 0 % 8) 3 = V at *
        by_cases hlow : V < 65536
        · have HB := Lib.hid (show r1 s i = (0, 0) from r1_bad s i (by rw [HG.out, if_neg (by omega)]))
          have t1 : decide ((V : Int) < 65536) = true := by simp; omega
          go_wp2_with fail
          go_ret2
          exact tup_mk w HB.out
        · have t1 : decide ((V : Int) < 65536) = false := by simp; omega
          by_cases hhi : V ≤ 1114111
          · have t2 : decide ((1114111 : Int) < (V : Int)) = false := by simp; omega
            have t3 : decide ((55296 : Int) ≤ (V : Int)) = true := by simp; omega
            have t4 : decide ((V : Int) ≤ 57343) = false := by simp; omega
            have HB := Lib.hid (r1_good s i V 4 (by rw [HG.out, if_pos (by omega)]) (by omega))
            go_wp2_with fail
            go_ret2
            exact tup_mk w HB.out
          · have t2 : decide ((1114111 : Int) < (V : Int)) = true := by simp; omega
            have HB := Lib.hid (show r1 s i = (0, 0) from r1_bad s i (by rw [HG.out, if_neg (by omega)]))
            go_wp2_with fail
            go_ret2
            exact tup_mk w HB.out
  · have dn : decide ((s.size : Int) < (i : Int) + 4) = true := by simp; omega
    have HB := Lib.hid (show r1 s i = (0, 0) from r1_bad s i (bad_cont _ _ _ _ _ (by omega) (by omega)))
    go_enter Tryd.func90, Tryd.ntmps90
    go_wp2_with fail
    go_ret2
    exact tup_mk w HB.out

set_option maxHeartbeats 1000000 in
theorem rune1_low (s : ByteArray) (i : Nat) (_hs : s.size ≤ 1000000000) (h : i < s.size) (w : World) (h1 : by1 s i 0 < 128) :
    Calls Tryd.prog 90 #[.string s, .int .i64 i] w (Tup (r1 s i).1 (r1 s i).2 w) := by
  have hb0 := by1_zero s i h
  have d1 : decide ((by1 s i 0 : Int) < 128) = true := by simp; omega
  have HB := Lib.hid (show r1 s i = (by1 s i 0, 1) by
    rw [r1_N]
    have e : decodeN (s.size - i) (by1 s i 0) (by1 s i 1) (by1 s i 2) (by1 s i 3) = (by1 s i 0, 1) := Lib.decodeN_ascii _ _ _ _ _ h1
    rw [e, if_neg (by simp only; omega)])
  go_enter Tryd.func90, Tryd.ntmps90
  go_wp2_with fail
  go_ret2
  exact tup_mk w HB.out

set_option maxHeartbeats 1000000 in
set_option maxRecDepth 100000 in
theorem rune1_none (s : ByteArray) (i : Nat) (_hs : s.size ≤ 1000000000) (h : i < s.size) (w : World) (h1 : (128 ≤ by1 s i 0 ∧ by1 s i 0 < 194) ∨ 245 ≤ by1 s i 0) :
    Calls Tryd.prog 90 #[.string s, .int .i64 i] w (Tup (r1 s i).1 (r1 s i).2 w) := by
  have hb0 := by1_zero s i h
  have d1 : decide ((by1 s i 0 : Int) < 128) = false := by simp; omega
  have HB := Lib.hid (show r1 s i = (0, 0) from r1_bad s i (by
    by_cases c : 192 ≤ by1 s i 0 ∧ by1 s i 0 < 194
    · exact low2 _ _ _ _ _ c
    · by_cases c2 : by1 s i 0 < 192 ∨ 248 ≤ by1 s i 0
      · exact bad_cont _ _ _ _ _ (by omega) (by omega)
      · by_cases c3 : s.size - i < 4 ∨ by1 s i 1 / 64 ≠ 2 ∨ by1 s i 2 / 64 ≠ 2 ∨ by1 s i 3 / 64 ≠ 2
        · exact bad_cont _ _ _ _ _ (by omega) (by omega)
        · rw [good4 _ _ _ _ _ ⟨by omega, by omega⟩ (by omega) (by omega) (by omega) (by omega), if_neg (by omega)]))
  have hb256 := by1_lt s i 0
  rcases h1 with h1 | h1
  · have d2 : decide ((194 : Int) ≤ (by1 s i 0 : Int)) = false := by simp; omega
    have d4 : decide ((224 : Int) ≤ (by1 s i 0 : Int)) = false := by simp; omega
    have d6 : decide ((240 : Int) ≤ (by1 s i 0 : Int)) = false := by simp; omega
    go_enter Tryd.func90, Tryd.ntmps90
    go_wp2_with fail
    go_ret2
    exact tup_mk w HB.out
  · have d2 : decide ((194 : Int) ≤ (by1 s i 0 : Int)) = true := by simp; omega
    have d3 : decide ((by1 s i 0 : Int) ≤ 223) = false := by simp; omega
    have d4 : decide ((224 : Int) ≤ (by1 s i 0 : Int)) = true := by simp; omega
    have d5 : decide ((by1 s i 0 : Int) ≤ 239) = false := by simp; omega
    have d6 : decide ((240 : Int) ≤ (by1 s i 0 : Int)) = true := by simp; omega
    have d7 : decide ((by1 s i 0 : Int) ≤ 244) = false := by simp; omega
    go_enter Tryd.func90, Tryd.ntmps90
    go_wp2_with fail
    go_ret2
    exact tup_mk w HB.out

theorem rune1_any (s : ByteArray) (i : Nat) (hs : s.size ≤ 1000000000) (h : i < s.size) (w : World) :
    Calls Tryd.prog 90 #[.string s, .int .i64 i] w (Tup (r1 s i).1 (r1 s i).2 w) := by
  by_cases c1 : by1 s i 0 < 128
  · exact rune1_low s i hs h w c1
  · by_cases c2 : by1 s i 0 < 194
    · exact rune1_none s i hs h w (.inl ⟨by omega, c2⟩)
    · by_cases c3 : by1 s i 0 ≤ 223
      · exact rune1_2 s i hs h w (by omega) c3
      · by_cases c4 : by1 s i 0 ≤ 239
        · exact rune1_3 s i hs h w (by omega) c4
        · by_cases c5 : by1 s i 0 ≤ 244
          · exact rune1_4 s i hs h w (by omega) c5
          · exact rune1_none s i hs h w (.inr (by omega))

end Go.Proofs.YtakmkhkbeabgcaaDoor
