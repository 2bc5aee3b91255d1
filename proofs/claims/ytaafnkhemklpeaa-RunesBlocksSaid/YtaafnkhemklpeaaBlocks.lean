/-
  refectorylaw01.RunesBlocks answers true at every input: the walk.
-/
import Derived.Test.YtaafnkhemklpeaaLawBlk
import Derived.Test.YtaafnkhemklpeaaWrong
namespace Go.Proofs.Ytaafnkhemklpeaa
open Go.RowKit

def nlS (n : Nat) : ByteArray := match n with
  | 0 => ⟨#[10]⟩
  | 1 => ⟨#[13]⟩
  | _ => ⟨#[13, 10]⟩
def blanksS : ByteArray := ⟨#[32, 32, 32, 32, 32, 32, 32, 32, 32, 32]⟩
def xS : ByteArray := ⟨#[120]⟩
def firstS : ByteArray := ⟨#[102, 105, 114, 115, 116]⟩
def sS (nl : ByteArray) (ks : List Nat) : ByteArray := ks.foldl (fun acc k => acc ++ nl ++ blanksS.extract 0 k ++ ⟨#[120]⟩) firstS
def wS (L : Nat) (ks : List Nat) : ByteArray := ks.foldl (fun acc k => acc ++ ⟨#[10]⟩ ++ blanksS.extract 0 (k - L) ++ ⟨#[120]⟩) firstS

theorem sS_snoc (nl : ByteArray) (ks : List Nat) (k : Nat) : sS nl (ks ++ [k]) = sS nl ks ++ nl ++ blanksS.extract 0 k ++ ⟨#[120]⟩ := by
  unfold sS; rw [List.foldl_append]; rfl
theorem wS_snoc (L : Nat) (ks : List Nat) (k : Nat) : wS L (ks ++ [k]) = wS L ks ++ ⟨#[10]⟩ ++ blanksS.extract 0 (k - L) ++ ⟨#[120]⟩ := by
  unfold wS; rw [List.foldl_append]; rfl

theorem blank_list (k : Nat) (h : k ≤ 10) : (blanksS.extract 0 k).data.toList = List.replicate k 32 := by
  have h' : k = 0 ∨ k = 1 ∨ k = 2 ∨ k = 3 ∨ k = 4 ∨ k = 5 ∨ k = 6 ∨ k = 7 ∨ k = 8 ∨ k = 9 ∨ k = 10 := by omega
  rw [Lib.extract_data]
  rcases h' with rfl | rfl | rfl | rfl | rfl | rfl | rfl | rfl | rfl | rfl | rfl <;> rfl

theorem snoc_ind {p : List Nat → Prop} (h0 : p []) (h1 : ∀ r k, p r → p (r ++ [k])) : ∀ l, p l := by
  intro l
  have : ∀ q : List Nat, p q.reverse := by
    intro q
    induction q with
    | nil => exact h0
    | cons a r ih => rw [List.reverse_cons]; exact h1 _ _ ih
  have h := this l.reverse
  rwa [List.reverse_reverse] at h

theorem sS_list (nl : ByteArray) : ∀ ks : List Nat, (∀ k ∈ ks, k < 7) → (sS nl ks).data.toList = firstL ++ flat nl.data.toList ks := by
  refine snoc_ind ?_ ?_
  · intro _; rfl
  · intro r k ih hk
    rw [sS_snoc, app_list, app_list, app_list, ih (fun x hx => hk x (by simp [hx])), blank_list k (by have := hk k (by simp); omega)]
    simp [flat, ln]
theorem wS_list (L : Nat) : ∀ ks : List Nat, (∀ k ∈ ks, k < 7) → (wS L ks).data.toList = firstL ++ ks.flatMap fun k => 10 :: ln (k - L) := by
  refine snoc_ind ?_ ?_
  · intro _; rfl
  · intro r k ih hk
    rw [wS_snoc, app_list, app_list, app_list, ih (fun x hx => hk x (by simp [hx])), blank_list (k - L) (by have := hk k (by simp); omega)]
    simp [ln]

theorem nlS_size (n : Nat) : (nlS n).size ≤ 2 := by
  unfold nlS
  split <;> decide
theorem nlS_nl (n : Nat) : isNl (nlS n).data.toList := by
  unfold nlS isNl
  split
  · exact .inl rfl
  · exact .inr (.inl rfl)
  · exact .inr (.inr rfl)

theorem ext_le (k : Nat) : (blanksS.extract 0 k).size ≤ 10 := by
  have : blanksS.size = 10 := rfl
  simp
  omega
theorem sS_size (nl : ByteArray) (hn : nl.size ≤ 2) : ∀ ks : List Nat, (sS nl ks).size ≤ 5 + 13 * ks.length := by
  refine snoc_ind ?_ ?_
  · simp [sS, firstS, ByteArray.size]
  · intro r k ih
    rw [sS_snoc, ByteArray.size_append, ByteArray.size_append, ByteArray.size_append, List.length_append]
    have := ext_le k
    have e : (⟨#[120]⟩ : ByteArray).size = 1 := rfl
    simp only [List.length_cons, List.length_nil]
    omega
theorem wS_size (L : Nat) : ∀ ks : List Nat, (wS L ks).size ≤ 5 + 13 * ks.length := by
  refine snoc_ind ?_ ?_
  · simp [wS, firstS, ByteArray.size]
  · intro r k ih
    rw [wS_snoc, ByteArray.size_append, ByteArray.size_append, ByteArray.size_append, List.length_append]
    have := ext_le (k - L)
    have e : (⟨#[120]⟩ : ByteArray).size = 1 := rfl
    have e2 : (⟨#[10]⟩ : ByteArray).size = 1 := rfl
    simp only [List.length_cons, List.length_nil]
    omega

theorem nl_index0 (w : World) : (Instr.index 33 (.agg #[.string ⟨#[10]⟩, .string ⟨#[13]⟩, .string ⟨#[13, 10]⟩]) (.int .i64 0)).run Try.prog w = .ok (.string (nlS 0)) w := by kernel_rfl
theorem nl_index1 (w : World) : (Instr.index 33 (.agg #[.string ⟨#[10]⟩, .string ⟨#[13]⟩, .string ⟨#[13, 10]⟩]) (.int .i64 1)).run Try.prog w = .ok (.string (nlS 1)) w := by kernel_rfl
theorem nl_index2 (w : World) : (Instr.index 33 (.agg #[.string ⟨#[10]⟩, .string ⟨#[13]⟩, .string ⟨#[13, 10]⟩]) (.int .i64 2)).run Try.prog w = .ok (.string (nlS 2)) w := by kernel_rfl
theorem nl_index (n : Nat) (hn : n < 3) (w : World) : (Instr.index 33 (.agg #[.string ⟨#[10]⟩, .string ⟨#[13]⟩, .string ⟨#[13, 10]⟩]) (.int .i64 n)).run Try.prog w = .ok (.string (nlS n)) w := by
  have h : n = 0 ∨ n = 1 ∨ n = 2 := by omega
  rcases h with rfl | rfl | rfl
  · exact nl_index0 w
  · exact nl_index1 w
  · exact nl_index2 w

theorem leastK_snoc (ks : List Nat) (k : Nat) : leastK (ks ++ [k]) = min (leastK ks) k := by
  unfold leastK; rw [List.foldl_append]; rfl

theorem block_is (s r : ByteArray) (w : World) (hs : s.size ≤ 100000) (h : blockB s.data.toList = r.data.toList) :
    Calls Try.prog 18 #[.string s] w fun e w' => e = .returned (.string r) ∧ Below w.heap.size w w' := by
  refine (block_any s w hs).mono ?_
  rintro e w' hp
  rw [h] at hp
  exact hp

/-- What the last two Blocks of the law say. -/
def rS (n : Nat) (ks : List Nat) : ByteArray := ⟨(blockB (nlS n ++ sS (nlS n) ks).data.toList).toArray⟩
theorem big_eq (n : Nat) (ks : List Nat) (hk : ∀ k ∈ ks, k < 7) : blockB (nlS n ++ ⟨#[32, 32]⟩ ++ nlS n ++ sS (nlS n) ks ++ nlS n ++ nlS n ++ ⟨#[32, 32, 32]⟩).data.toList = (rS n ks).data.toList ∧ blockB (nlS n ++ sS (nlS n) ks).data.toList = (rS n ks).data.toList := by
  have e2 : blockB (nlS n ++ sS (nlS n) ks).data.toList = (rS n ks).data.toList := by simp [rS]
  refine ⟨?_, e2⟩
  rw [← e2, app_list, app_list, app_list, app_list, app_list, app_list, app_list, sS_list _ ks hk]
  have h := block_two (nlS n).data.toList (nlS_nl n) ks
  have a1 : (⟨#[32, 32]⟩ : ByteArray).data.toList = two := rfl
  have a2 : (⟨#[32, 32, 32]⟩ : ByteArray).data.toList = three := rfl
  rw [a1, a2]
  simp only [List.append_assoc]
  exact h

/-- The numbers of the law, as it reads them. -/
def numsOf (zs : List Int) : List Nat := (zs.take 20).map fun z => (z % 7).toNat
theorem nums_lt (zs : List Int) : ∀ k ∈ numsOf zs, k < 7 := by
  intro k hk
  obtain ⟨z, _, rfl⟩ := List.mem_map.1 hk
  omega

set_option maxHeartbeats 4000000 in
set_option maxRecDepth 100000 in
theorem runesBlocks_walk (a : Option Addr) (len cap : Nat) (zs : List Int) (m : Int) (w : World) (hz : zs.length = len) (hlm : len ≤ maxLen) (hrow : 0 < len → ∃ b off, a = some ⟨b, off, none⟩ ∧ ∀ i z, zs[i]? = some z → w.cell? ⟨b, off + i, none⟩ = some (.int .i64 z)) :
    Calls Try.prog 6 #[.slice a len cap, .int .i64 m] w (TrueBelow w) := by
  unfold maxLen at hlm
  have k0 := Int.emod_nonneg m (by omega : (3 : Int) ≠ 0)
  have k1 := Int.emod_lt_of_pos m (by omega : (0 : Int) < 3)
  obtain ⟨n, hn⟩ : ∃ n : Nat, m % 3 = n := ⟨(m % 3).toNat, by omega⟩
  have hn3 : n < 3 := by omega
  have hix := nl_index n hn3
  have HN := Lib.hid hn
  have hnz := nlS_size n
  clear hn k0 k1
  have HZ := Lib.hid hz
  have HR := Lib.hid hrow
  have HKL : Hid (numsOf zs = numsOf zs) := Lib.hid rfl
  have hkl : (numsOf zs).length = min len 20 := by simp [numsOf, hz]; omega
  have HKN : Hid (∀ j, j < len → j < 20 → ∃ z, zs[j]? = some z ∧ (numsOf zs)[j]? = some (z % 7).toNat) := Lib.hid (by
    intro j h1 h2
    have hj : j < zs.length := by omega
    refine ⟨zs[j], List.getElem?_eq_getElem hj, ?_⟩
    unfold numsOf
    rw [List.getElem?_map, List.getElem?_take, if_pos h2, List.getElem?_eq_getElem hj]
    rfl)
  have HLT := Lib.hid (nums_lt zs)
  clear hz hrow HKL
  generalize numsOf zs = ks at *
  go_enter Try.func6, Try.ntmps6
  go_wp2_with fail
  refine (place_any _ _ _ (by omega) (by omega)).mono ?_
  rintro e w' ⟨rfl, rfl⟩
  rw [HN.out]
  go_wp2_with fail
  go_loop [9, 10] (fun l i => ∃ j : Nat, j ≤ ks.length ∧ i = .int .i64 j ∧ l = .int .i64 (leastK (ks.take j) : Nat)) (fun _ i => 20 - (intOf i).toNat)
  case atStart => exact ⟨0, Nat.zero_le _, rfl, rfl⟩
  case round =>
    obtain ⟨j, hj, rfl, rfl⟩ := hrel
    by_cases hlt : j < ks.length
    · have h1 : j < len := by omega
      have h2 : j < 20 := by omega
      obtain ⟨z, hz1, hz2⟩ := HKN.out j h1 h2
      obtain ⟨b, off, rfl, hcell⟩ := HR.out (by omega)
      have hc := hcell j z hz1
      clear hcell
      have f1 : decide (j < len) = true := by simpa using h1
      have f2 : decide ((j : Int) < 20) = true := by simp; omega
      have HS := Lib.hid (show leastK (ks.take (j + 1)) = min (leastK (ks.take j)) (z % 7).toNat by rw [take_next ks j _ hz2, leastK_snoc])
      have hl9 := (foldl_min_le (ks.take j) 99).1
      have hl10 : leastK (ks.take j) ≤ 99 := hl9
      have q0 := Int.emod_nonneg z (by omega : (7 : Int) ≠ 0)
      have q1 := Int.emod_lt_of_pos z (by omega : (0 : Int) < 7)
      clear hz1 hz2 hl9
      generalize leastK (ks.take j) = L at *
-- GEN-CUT
      go_wp2_with fail
      refine (place_any _ _ _ (by omega) (by omega)).mono ?_
      rintro e w' ⟨rfl, rfl⟩
      go_wp2_with fail
      go_round
      case rel => exact ⟨j + 1, by omega, by go_num, by rw [HS.out]; congr 1; omega⟩
      case measure => simp [intOf]; omega
    · have hjk : j = ks.length := by omega
      have htk : ks.take j = ks := by rw [hjk]; exact List.take_length
      rw [htk]
      clear htk
      obtain ⟨L, hL⟩ : ∃ L, leastK ks = L := ⟨_, rfl⟩
      have HLD := Lib.hid hL
      rw [hL]
      have hL99 : L ≤ 99 := by rw [← hL]; exact (foldl_min_le ks 99).1
      clear hL hlt
      by_cases h20 : len ≤ 20
      · have f1 : decide (j < len) = false := by simp; omega
        go_wp2_with fail
        go_loop [7, 8, 12, 13] (fun s u i _ => ∃ j : Nat, j ≤ ks.length ∧ i = .int .i64 j ∧ s = .string (sS (nlS n) (ks.take j)) ∧ u = .string (wS L (ks.take j))) (fun _ _ i _ => 20 - (intOf i).toNat)
        case atStart => exact ⟨0, Nat.zero_le _, rfl, rfl, rfl⟩
        case round =>
          obtain ⟨j, hj, rfl, rfl, rfl⟩ := hrel
          have hss := sS_size (nlS n) hnz (ks.take j)
          have hws := wS_size L (ks.take j)
          have htl : (ks.take j).length ≤ 20 := by rw [List.length_take]; omega
          by_cases hlt : j < ks.length
          · have h1 : j < len := by omega
            have h2 : j < 20 := by omega
            obtain ⟨z, hz1, hz2⟩ := HKN.out j h1 h2
            obtain ⟨b, off, rfl, hcell⟩ := HR.out (by omega)
            have hc := hcell j z hz1
            clear hcell
            have f1 : decide (j < len) = true := by simpa using h1
            have f2 : decide ((j : Int) < 20) = true := by simp; omega
            have q0 := Int.emod_nonneg z (by omega : (7 : Int) ≠ 0)
            have q1 := Int.emod_lt_of_pos z (by omega : (0 : Int) < 7)
            obtain ⟨k, hk⟩ : ∃ k : Nat, z % 7 = k := ⟨(z % 7).toNat, by omega⟩
            rw [hk] at hz2
            have hz3 : ks[j]? = some k := hz2
            have hLk : L ≤ k := by rw [← HLD.out]; exact (foldl_min_le ks 99).2 k (List.mem_of_getElem? hz3)
            have hk7 : k < 7 := by omega
            have HS := Lib.hid (show sS (nlS n) (ks.take (j + 1)) = sS (nlS n) (ks.take j) ++ nlS n ++ blanksS.extract 0 k ++ ⟨#[120]⟩ by rw [take_next ks j k hz3, sS_snoc])
            have HW := Lib.hid (show wS L (ks.take (j + 1)) = wS L (ks.take j) ++ ⟨#[10]⟩ ++ blanksS.extract 0 (k - L) ++ ⟨#[120]⟩ by rw [take_next ks j k hz3, wS_snoc])
            obtain ⟨d, hd⟩ : ∃ d : Nat, (k : Int) - (L : Int) = d := ⟨k - L, by omega⟩
            have hdd : k - L = d := by omega
            rw [hdd] at HW
            have hd7 : d < 7 := by omega
            have HKZ := Lib.hid hk
            have e1 := ext_le k
            have e2 := ext_le d
            have z1 : (sS (nlS n) (ks.take j) ++ nlS n).size ≤ 300 := by rw [ByteArray.size_append]; omega
            have z2 : (sS (nlS n) (ks.take j) ++ nlS n ++ blanksS.extract 0 k).size ≤ 310 := by rw [ByteArray.size_append]; omega
            have z3 : (wS L (ks.take j) ++ ⟨#[10]⟩).size ≤ 300 := by rw [ByteArray.size_append]; have : (⟨#[10]⟩ : ByteArray).size = 1 := rfl; omega
            have z4 : (wS L (ks.take j) ++ ⟨#[10]⟩ ++ blanksS.extract 0 d).size ≤ 310 := by rw [ByteArray.size_append]; omega
            clear hz1 hz2 hz3 hk hdd
            generalize sS (nlS n) (ks.take j) = S at *
            generalize wS L (ks.take j) = U at *
            go_wp2_with fail
            refine (place_any _ _ _ (by omega) (by omega)).mono ?_
            rintro e w' ⟨rfl, rfl⟩
            rw [HKZ.out]
            go_wp2_with fail
            go_round
            case rel => exact ⟨j + 1, by omega, by go_num, by rw [HS.out]; rfl, by rw [HW.out]; rfl⟩
            case measure => simp [intOf]; omega
          · have hje : j = ks.length := by omega
            have HST := Lib.hid (show ks.take j = ks by rw [hje]; exact List.take_length)
            clear hlt
            rw [HST.out] at hss hws ⊢
            clear htl
            have hkl20 : ks.length ≤ 20 := by omega
            have HB1 := Lib.hid (show blockB (sS (nlS n) ks).data.toList = (wS L ks).data.toList by rw [sS_list _ ks HLT.out, wS_list _ ks HLT.out, block_S _ (nlS_nl n) ks HLT.out, ← HLD.out]; rfl)
            have HB2 := Lib.hid (big_eq n ks HLT.out)
            have y1 : (nlS n ++ ⟨#[32, 32]⟩).size ≤ 4 := by rw [ByteArray.size_append]; have : (⟨#[32, 32]⟩ : ByteArray).size = 2 := rfl; omega
            have y2 : (nlS n ++ ⟨#[32, 32]⟩ ++ nlS n).size ≤ 6 := by rw [ByteArray.size_append]; omega
            have y3 : (nlS n ++ ⟨#[32, 32]⟩ ++ nlS n ++ sS (nlS n) ks).size ≤ 300 := by rw [ByteArray.size_append]; omega
            have y4 : (nlS n ++ ⟨#[32, 32]⟩ ++ nlS n ++ sS (nlS n) ks ++ nlS n).size ≤ 310 := by rw [ByteArray.size_append]; omega
            have y5 : (nlS n ++ ⟨#[32, 32]⟩ ++ nlS n ++ sS (nlS n) ks ++ nlS n ++ nlS n).size ≤ 320 := by rw [ByteArray.size_append]; omega
            have y6 : (nlS n ++ ⟨#[32, 32]⟩ ++ nlS n ++ sS (nlS n) ks ++ nlS n ++ nlS n ++ ⟨#[32, 32, 32]⟩).size ≤ 330 := by rw [ByteArray.size_append]; have : (⟨#[32, 32, 32]⟩ : ByteArray).size = 3 := rfl; omega
            have y7 : (nlS n ++ sS (nlS n) ks).size ≤ 300 := by rw [ByteArray.size_append]; omega
            have f3 : decide (j < len) = false := by simp; omega
            go_wp2_with fail
            refine (block_is _ (wS L ks) _ (by omega) HB1.out).mono ?_
            rintro e w1 ⟨rfl, b1⟩
            go_wp2_with fail
            refine (block_is _ (rS n ks) _ (by omega) HB2.out.1).mono ?_
            rintro e w2 ⟨rfl, b2⟩
            go_wp2_with fail
            refine (block_is _ (rS n ks) _ (by omega) HB2.out.2).mono ?_
            rintro e w3 ⟨rfl, b3⟩
            go_wp2_with fail
            refine (awake_any _).mono ?_
            rintro e w4 ⟨rfl, b4⟩
            go_wp2_with fail
            go_ret
            exact ⟨rfl, below3 (below3 b1 b2 b3) b4 (Below.refl _ _)⟩
      · have f1 : decide (j < len) = true := by simp; omega
        have f2 : decide ((j : Int) < 20) = false := by simp; omega
        go_wp2_with fail
        go_loop [7, 8, 12, 13] (fun s u i _ => ∃ j : Nat, j ≤ ks.length ∧ i = .int .i64 j ∧ s = .string (sS (nlS n) (ks.take j)) ∧ u = .string (wS L (ks.take j))) (fun _ _ i _ => 20 - (intOf i).toNat)
        case atStart => exact ⟨0, Nat.zero_le _, rfl, rfl, rfl⟩
        case round =>
          obtain ⟨j, hj, rfl, rfl, rfl⟩ := hrel
          have hss := sS_size (nlS n) hnz (ks.take j)
          have hws := wS_size L (ks.take j)
          have htl : (ks.take j).length ≤ 20 := by rw [List.length_take]; omega
          by_cases hlt : j < ks.length
          · have h1 : j < len := by omega
            have h2 : j < 20 := by omega
            obtain ⟨z, hz1, hz2⟩ := HKN.out j h1 h2
            obtain ⟨b, off, rfl, hcell⟩ := HR.out (by omega)
            have hc := hcell j z hz1
            clear hcell
            have f1 : decide (j < len) = true := by simpa using h1
            have f2 : decide ((j : Int) < 20) = true := by simp; omega
            have q0 := Int.emod_nonneg z (by omega : (7 : Int) ≠ 0)
            have q1 := Int.emod_lt_of_pos z (by omega : (0 : Int) < 7)
            obtain ⟨k, hk⟩ : ∃ k : Nat, z % 7 = k := ⟨(z % 7).toNat, by omega⟩
            rw [hk] at hz2
            have hz3 : ks[j]? = some k := hz2
            have hLk : L ≤ k := by rw [← HLD.out]; exact (foldl_min_le ks 99).2 k (List.mem_of_getElem? hz3)
            have hk7 : k < 7 := by omega
            have HS := Lib.hid (show sS (nlS n) (ks.take (j + 1)) = sS (nlS n) (ks.take j) ++ nlS n ++ blanksS.extract 0 k ++ ⟨#[120]⟩ by rw [take_next ks j k hz3, sS_snoc])
            have HW := Lib.hid (show wS L (ks.take (j + 1)) = wS L (ks.take j) ++ ⟨#[10]⟩ ++ blanksS.extract 0 (k - L) ++ ⟨#[120]⟩ by rw [take_next ks j k hz3, wS_snoc])
            obtain ⟨d, hd⟩ : ∃ d : Nat, (k : Int) - (L : Int) = d := ⟨k - L, by omega⟩
            have hdd : k - L = d := by omega
            rw [hdd] at HW
            have hd7 : d < 7 := by omega
            have HKZ := Lib.hid hk
            have e1 := ext_le k
            have e2 := ext_le d
            have z1 : (sS (nlS n) (ks.take j) ++ nlS n).size ≤ 300 := by rw [ByteArray.size_append]; omega
            have z2 : (sS (nlS n) (ks.take j) ++ nlS n ++ blanksS.extract 0 k).size ≤ 310 := by rw [ByteArray.size_append]; omega
            have z3 : (wS L (ks.take j) ++ ⟨#[10]⟩).size ≤ 300 := by rw [ByteArray.size_append]; have : (⟨#[10]⟩ : ByteArray).size = 1 := rfl; omega
            have z4 : (wS L (ks.take j) ++ ⟨#[10]⟩ ++ blanksS.extract 0 d).size ≤ 310 := by rw [ByteArray.size_append]; omega
            clear hz1 hz2 hz3 hk hdd
            generalize sS (nlS n) (ks.take j) = S at *
            generalize wS L (ks.take j) = U at *
            go_wp2_with fail
            refine (place_any _ _ _ (by omega) (by omega)).mono ?_
            rintro e w' ⟨rfl, rfl⟩
            rw [HKZ.out]
            go_wp2_with fail
            go_round
            case rel => exact ⟨j + 1, by omega, by go_num, by rw [HS.out]; rfl, by rw [HW.out]; rfl⟩
            case measure => simp [intOf]; omega
          · have hje : j = ks.length := by omega
            have HST := Lib.hid (show ks.take j = ks by rw [hje]; exact List.take_length)
            clear hlt
            rw [HST.out] at hss hws ⊢
            clear htl
            have hkl20 : ks.length ≤ 20 := by omega
            have HB1 := Lib.hid (show blockB (sS (nlS n) ks).data.toList = (wS L ks).data.toList by rw [sS_list _ ks HLT.out, wS_list _ ks HLT.out, block_S _ (nlS_nl n) ks HLT.out, ← HLD.out]; rfl)
            have HB2 := Lib.hid (big_eq n ks HLT.out)
            have y1 : (nlS n ++ ⟨#[32, 32]⟩).size ≤ 4 := by rw [ByteArray.size_append]; have : (⟨#[32, 32]⟩ : ByteArray).size = 2 := rfl; omega
            have y2 : (nlS n ++ ⟨#[32, 32]⟩ ++ nlS n).size ≤ 6 := by rw [ByteArray.size_append]; omega
            have y3 : (nlS n ++ ⟨#[32, 32]⟩ ++ nlS n ++ sS (nlS n) ks).size ≤ 300 := by rw [ByteArray.size_append]; omega
            have y4 : (nlS n ++ ⟨#[32, 32]⟩ ++ nlS n ++ sS (nlS n) ks ++ nlS n).size ≤ 310 := by rw [ByteArray.size_append]; omega
            have y5 : (nlS n ++ ⟨#[32, 32]⟩ ++ nlS n ++ sS (nlS n) ks ++ nlS n ++ nlS n).size ≤ 320 := by rw [ByteArray.size_append]; omega
            have y6 : (nlS n ++ ⟨#[32, 32]⟩ ++ nlS n ++ sS (nlS n) ks ++ nlS n ++ nlS n ++ ⟨#[32, 32, 32]⟩).size ≤ 330 := by rw [ByteArray.size_append]; have : (⟨#[32, 32, 32]⟩ : ByteArray).size = 3 := rfl; omega
            have y7 : (nlS n ++ sS (nlS n) ks).size ≤ 300 := by rw [ByteArray.size_append]; omega
            have f3 : decide (j < len) = true := by simp; omega
            have f4 : decide ((j : Int) < 20) = false := by simp; omega
            go_wp2_with fail
            refine (block_is _ (wS L ks) _ (by omega) HB1.out).mono ?_
            rintro e w1 ⟨rfl, b1⟩
            go_wp2_with fail
            refine (block_is _ (rS n ks) _ (by omega) HB2.out.1).mono ?_
            rintro e w2 ⟨rfl, b2⟩
            go_wp2_with fail
            refine (block_is _ (rS n ks) _ (by omega) HB2.out.2).mono ?_
            rintro e w3 ⟨rfl, b3⟩
            go_wp2_with fail
            refine (awake_any _).mono ?_
            rintro e w4 ⟨rfl, b4⟩
            go_wp2_with fail
            go_ret
            exact ⟨rfl, below3 (below3 b1 b2 b3) b4 (Below.refl _ _)⟩

end Go.Proofs.Ytaafnkhemklpeaa
