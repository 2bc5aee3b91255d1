/-
  refectorylaw01.RunesNames answers true at every input.
-/
import Derived.Test.YtaafnkhemklpeaaAwake
namespace Go.Proofs.Ytaafnkhemklpeaa
open Go.RowKit

theorem name_is (s : ByteArray) (w : World) (b : Bool) (hs : s.size ≤ maxLen) (h : nameB s.data.toList = b) :
    Calls Try.prog 14 #[.string s] w fun e w' => e = .returned (.bool b) ∧ Below w.heap.size w w' := by
  subst h
  exact name_any s w hs

theorem foldl_push (ns : List Int) : ∀ s : ByteArray, ns.foldl (fun r n => r.push (UInt8.ofNat n.toNat)) s = ⟨(s.data.toList ++ ns.map fun n => UInt8.ofNat n.toNat).toArray⟩ := by
  induction ns with
  | nil => intro s; simp
  | cons n r ih =>
    intro s
    rw [List.foldl_cons, ih]
    simp [ByteArray.push]

/-- string of a slice of bytes. -/
theorem conv_bytes (w : World) (a : Addr) (ns : List Int) (cap : Nat) (h : ∀ j v, (ns.map (Value.int .u8))[j]? = some v → w.cell? (a.add j) = some v) :
    (convert 35 9 (.slice (some a) ns.length cap)).run Try.prog w = .ok (.string ⟨(ns.map fun n => UInt8.ofNat n.toNat).toArray⟩) w := by
  rw [run_convert_bytes_string _ _ _ 5 _ _ _ Try.underlying35 Try.underlying5 Try.underlying9]
  have e := run_loadCells_list (P := Try.prog) (w := w) a (ns.map (Value.int .u8)) h
  rw [List.length_map] at e
  rw [run_bytesToString _ _ _ _ ns e, foldl_push]
  rfl

theorem conv_one (w : World) (c : Int) : (convert 35 9 (.slice (some ⟨w.heap.size, 0, none⟩) 1 1)).run Try.prog (w.alloc (.cells #[.int .u8 c] 5)) = .ok (.string ⟨#[UInt8.ofNat c.toNat]⟩) (w.alloc (.cells #[.int .u8 c] 5)) := by
  have := conv_bytes (w.alloc (.cells #[.int .u8 c] 5)) ⟨w.heap.size, 0, none⟩ [c] 1 (cell_one_new _ _ _)
  simpa using this

def reps (j : Nat) : ByteArray := ⟨(List.replicate j (97 : UInt8)).toArray⟩

theorem c8 (c : Int) (h0 : 0 ≤ c) (h1 : c ≤ 255) : ((UInt8.ofNat c.toNat).toNat : Int) = c := by
  simp
  omega
theorem nm_one (c : Int) (h0 : 0 ≤ c) (h1 : c ≤ 255) (b : Bool) (h : letB c = b) : nameB [UInt8.ofNat c.toNat] = b := by
  subst h
  simp only [nameB, nameGo, nameOk, c8 c h0 h1]
  simp
theorem nm_ac (c : Int) (h0 : 0 ≤ c) (h1 : c ≤ 255) (b : Bool) (h : (letB c || digB c) = b) : nameB [97, UInt8.ofNat c.toNat] = b := by
  subst h
  simp only [nameB, nameGo, nameOk, c8 c h0 h1]
  have : letB ((97 : UInt8).toNat : Int) = true := by decide
  rw [this]
  simp
theorem nm_ca (c : Int) (h0 : 0 ≤ c) (h1 : c ≤ 255) (b : Bool) (h : letB c = b) : nameB [UInt8.ofNat c.toNat, 97] = b := by
  subst h
  simp only [nameB, nameGo, nameOk, c8 c h0 h1]
  have : letB ((97 : UInt8).toNat : Int) = true := by decide
  rw [this]
  simp
theorem nm_go (j : Nat) : ∀ i, nameGo i (List.replicate j 97) = true := by
  induction j with
  | zero => intro i; rfl
  | succ j ih =>
    intro i
    rw [List.replicate_succ]
    simp only [nameGo, ih]
    have : letB ((97 : UInt8).toNat : Int) = true := by decide
    simp only [nameOk, this]
    rfl
theorem nm_reps (j : Nat) (b : Bool) (h : (decide (1 ≤ j) && decide (j ≤ 40)) = b) : nameB (reps j).data.toList = b := by
  subst h
  simp [nameB, reps, nm_go]
theorem reps_next (j : Nat) : reps j ++ ⟨#[97]⟩ = reps (j + 1) := by
  apply ByteArray.ext
  rw [ByteArray.data_append]
  simp [reps, Array.replicate_succ]
theorem one_size (x : UInt8) : (⟨#[x]⟩ : ByteArray).size ≤ maxLen := show 1 ≤ maxLen by decide
theorem two_list (x y : UInt8) : ((⟨#[x]⟩ : ByteArray) ++ ⟨#[y]⟩).data.toList = [x, y] := by
  rw [ByteArray.data_append]
  rfl
theorem two_size (x y : UInt8) : ((⟨#[x]⟩ : ByteArray) ++ ⟨#[y]⟩).size ≤ maxLen := by
  rw [ByteArray.size_append]
  show 2 ≤ maxLen
  decide
theorem reps_size (j : Nat) : (reps j).size = j := by simp [reps, ByteArray.size]
theorem below5 {w a b c d e : World} (h0 : Below w.heap.size w a) (h1 : Below a.heap.size a b) (h2 : Below b.heap.size b c) (h3 : Below c.heap.size c d) (h4 : Below d.heap.size d e) : Below w.heap.size w e := by
  have s0 := h0.size
  have s1 := h1.size
  have s2 := h2.size
  have s3 := h3.size
  exact (((h0.trans (h1.mono (by omega))).trans (h2.mono (by omega))).trans (h3.mono (by omega))).trans (h4.mono (by omega))
theorem below6 {w a b c d e f : World} (h0 : Below w.heap.size w a) (h1 : Below a.heap.size a b) (h2 : Below b.heap.size b c) (h3 : Below c.heap.size c d) (h4 : Below d.heap.size d e) (h5 : Below e.heap.size e f) : Below w.heap.size w f := by
  have s := (below5 h0 h1 h2 h3 h4).size
  exact (below5 h0 h1 h2 h3 h4).trans (h5.mono s)

set_option maxHeartbeats 4000000 in
set_option maxRecDepth 100000 in
theorem runesNames_walk (n c : Int) (hc0 : 0 ≤ c) (hc1 : c ≤ 255) (w : World) :
    Calls Try.prog 7 #[.int .i64 n, .int .u8 c] w (TrueBelow w) := by
  have k0 := Int.emod_nonneg n (by omega : (43 : Int) ≠ 0)
  have k1 := Int.emod_lt_of_pos n (by omega : (0 : Int) < 43)
  go_enter Try.func7, Try.ntmps7
  go_wp2_with ((go_at_call 20); (refine (place_any _ _ _ (by omega) (by omega)).mono ?_); rintro e w' ⟨rfl, rfl⟩)
  generalize n % 43 = k at k0 k1
  go_loop [6, 7] (fun s i => ∃ j : Nat, (j : Int) ≤ k ∧ i = .int .i64 j ∧ s = .string (reps j)) (fun _ i => (43 - intOf i).toNat)
  case atStart => exact ⟨0, by omega, rfl, rfl⟩
  case round =>
    obtain ⟨j, hj, rfl, rfl⟩ := hrel
    by_cases hlt : (j : Int) < k
    · have hz : (reps j).size ≤ 43 := by rw [reps_size]; omega
      go_wp2
      go_round
      case rel => exact ⟨j + 1, by omega, by go_num, by rw [reps_next]⟩
      case measure => simp [intOf]; omega
    · have hjk : k = j := by omega
      subst hjk
      have hj43 : j < 43 := by omega
      clear hlt hj k0 k1
      have hcv := conv_one w c
      have bA : Below w.heap.size w (w.alloc (.cells #[.int .u8 c] 5)) := (Below.refl _ w).alloc (Nat.le_refl _) _
      have hzr := reps_size j
      have hszj : (reps j).size ≤ maxLen := by rw [hzr]; unfold maxLen; omega
      clear hzr
      have cls : (97 ≤ c ∧ c ≤ 122) ∨ (65 ≤ c ∧ c ≤ 90) ∨ (95 ≤ c ∧ c ≤ 95) ∨ (48 ≤ c ∧ c ≤ 57) ∨ (0 ≤ c ∧ c ≤ 47) ∨ (58 ≤ c ∧ c ≤ 64) ∨ (91 ≤ c ∧ c ≤ 94) ∨ (96 ≤ c ∧ c ≤ 96) ∨ (123 ≤ c ∧ c ≤ 255) := by omega
      rcases cls with hx | hx | hx | hx | hx | hx | hx | hx | hx
      · have f1 : decide (97 ≤ c) = true := by simp; omega
        have f2 : decide (c ≤ 122) = true := by simp; omega
        have f3 : decide (65 ≤ c) = true := by simp; omega
        have f4 : decide (c ≤ 90) = false := by simp; omega
        have f5 : (c == 95) = false := by simp; omega
        have f6 : decide (48 ≤ c) = true := by simp; omega
        have f7 : decide (c ≤ 57) = false := by simp; omega
        have HL := Lib.hid (show letB c = true by simp [letB]; omega)
        have HD := Lib.hid (show (letB c || digB c) = true by simp [letB, digB]; omega)
        clear hx
        have js : j = 0 ∨ (1 ≤ j ∧ j ≤ 40) ∨ 41 ≤ j := by omega
        rcases js with hj | hj | hj
        · have g1 : decide ((1 : Int) ≤ (j : Int)) = false := by simp; omega
          have g2 : decide ((j : Int) ≤ 40) = true := by simp; omega
          have HK := Lib.hid (show (decide (1 ≤ j) && decide (j ≤ 40)) = false by simp; omega)
          clear hj hj43
          go_wp2_with fail
          refine (name_is _ _ false hszj (nm_reps j _ HK.out)).mono ?_
          rintro e w1 ⟨rfl, b1⟩
          go_wp2_with fail
          refine (name_is _ _ true (one_size _) (nm_one c hc0 hc1 _ HL.out)).mono ?_
          rintro e w2 ⟨rfl, b2⟩
          go_wp2_with fail
          refine (name_is _ _ true (two_size _ _) ((congrArg nameB (two_list _ _)).trans (nm_ac c hc0 hc1 _ HD.out))).mono ?_
          rintro e w3 ⟨rfl, b3⟩
          go_wp2_with fail
          refine (name_is _ _ true (two_size _ _) ((congrArg nameB (two_list _ _)).trans (nm_ca c hc0 hc1 _ HL.out))).mono ?_
          rintro e w4 ⟨rfl, b4⟩
          go_wp2_with fail
          refine (awake_any _).mono ?_
          rintro e w5 ⟨rfl, b5⟩
          go_wp2_with fail
          go_ret
          exact ⟨rfl, below6 bA b1 b2 b3 b4 b5⟩
        · have g1 : decide ((1 : Int) ≤ (j : Int)) = true := by simp; omega
          have g2 : decide ((j : Int) ≤ 40) = true := by simp; omega
          have HK := Lib.hid (show (decide (1 ≤ j) && decide (j ≤ 40)) = true by simp; omega)
          clear hj hj43
          go_wp2_with fail
          refine (name_is _ _ true hszj (nm_reps j _ HK.out)).mono ?_
          rintro e w1 ⟨rfl, b1⟩
          go_wp2_with fail
          refine (name_is _ _ true (one_size _) (nm_one c hc0 hc1 _ HL.out)).mono ?_
          rintro e w2 ⟨rfl, b2⟩
          go_wp2_with fail
          refine (name_is _ _ true (two_size _ _) ((congrArg nameB (two_list _ _)).trans (nm_ac c hc0 hc1 _ HD.out))).mono ?_
          rintro e w3 ⟨rfl, b3⟩
          go_wp2_with fail
          refine (name_is _ _ true (two_size _ _) ((congrArg nameB (two_list _ _)).trans (nm_ca c hc0 hc1 _ HL.out))).mono ?_
          rintro e w4 ⟨rfl, b4⟩
          go_wp2_with fail
          refine (awake_any _).mono ?_
          rintro e w5 ⟨rfl, b5⟩
          go_wp2_with fail
          go_ret
          exact ⟨rfl, below6 bA b1 b2 b3 b4 b5⟩
        · have g1 : decide ((1 : Int) ≤ (j : Int)) = true := by simp; omega
          have g2 : decide ((j : Int) ≤ 40) = false := by simp; omega
          have HK := Lib.hid (show (decide (1 ≤ j) && decide (j ≤ 40)) = false by simp; omega)
          clear hj hj43
          go_wp2_with fail
          refine (name_is _ _ false hszj (nm_reps j _ HK.out)).mono ?_
          rintro e w1 ⟨rfl, b1⟩
          go_wp2_with fail
          refine (name_is _ _ true (one_size _) (nm_one c hc0 hc1 _ HL.out)).mono ?_
          rintro e w2 ⟨rfl, b2⟩
          go_wp2_with fail
          refine (name_is _ _ true (two_size _ _) ((congrArg nameB (two_list _ _)).trans (nm_ac c hc0 hc1 _ HD.out))).mono ?_
          rintro e w3 ⟨rfl, b3⟩
          go_wp2_with fail
          refine (name_is _ _ true (two_size _ _) ((congrArg nameB (two_list _ _)).trans (nm_ca c hc0 hc1 _ HL.out))).mono ?_
          rintro e w4 ⟨rfl, b4⟩
          go_wp2_with fail
          refine (awake_any _).mono ?_
          rintro e w5 ⟨rfl, b5⟩
          go_wp2_with fail
          go_ret
          exact ⟨rfl, below6 bA b1 b2 b3 b4 b5⟩
      · have f1 : decide (97 ≤ c) = false := by simp; omega
        have f2 : decide (c ≤ 122) = true := by simp; omega
        have f3 : decide (65 ≤ c) = true := by simp; omega
        have f4 : decide (c ≤ 90) = true := by simp; omega
        have f5 : (c == 95) = false := by simp; omega
        have f6 : decide (48 ≤ c) = true := by simp; omega
        have f7 : decide (c ≤ 57) = false := by simp; omega
        have HL := Lib.hid (show letB c = true by simp [letB]; omega)
        have HD := Lib.hid (show (letB c || digB c) = true by simp [letB, digB]; omega)
        clear hx
        have js : j = 0 ∨ (1 ≤ j ∧ j ≤ 40) ∨ 41 ≤ j := by omega
        rcases js with hj | hj | hj
        · have g1 : decide ((1 : Int) ≤ (j : Int)) = false := by simp; omega
          have g2 : decide ((j : Int) ≤ 40) = true := by simp; omega
          have HK := Lib.hid (show (decide (1 ≤ j) && decide (j ≤ 40)) = false by simp; omega)
          clear hj hj43
          go_wp2_with fail
          refine (name_is _ _ false hszj (nm_reps j _ HK.out)).mono ?_
          rintro e w1 ⟨rfl, b1⟩
          go_wp2_with fail
          refine (name_is _ _ true (one_size _) (nm_one c hc0 hc1 _ HL.out)).mono ?_
          rintro e w2 ⟨rfl, b2⟩
          go_wp2_with fail
          refine (name_is _ _ true (two_size _ _) ((congrArg nameB (two_list _ _)).trans (nm_ac c hc0 hc1 _ HD.out))).mono ?_
          rintro e w3 ⟨rfl, b3⟩
          go_wp2_with fail
          refine (name_is _ _ true (two_size _ _) ((congrArg nameB (two_list _ _)).trans (nm_ca c hc0 hc1 _ HL.out))).mono ?_
          rintro e w4 ⟨rfl, b4⟩
          go_wp2_with fail
          refine (awake_any _).mono ?_
          rintro e w5 ⟨rfl, b5⟩
          go_wp2_with fail
          go_ret
          exact ⟨rfl, below6 bA b1 b2 b3 b4 b5⟩
        · have g1 : decide ((1 : Int) ≤ (j : Int)) = true := by simp; omega
          have g2 : decide ((j : Int) ≤ 40) = true := by simp; omega
          have HK := Lib.hid (show (decide (1 ≤ j) && decide (j ≤ 40)) = true by simp; omega)
          clear hj hj43
          go_wp2_with fail
          refine (name_is _ _ true hszj (nm_reps j _ HK.out)).mono ?_
          rintro e w1 ⟨rfl, b1⟩
          go_wp2_with fail
          refine (name_is _ _ true (one_size _) (nm_one c hc0 hc1 _ HL.out)).mono ?_
          rintro e w2 ⟨rfl, b2⟩
          go_wp2_with fail
          refine (name_is _ _ true (two_size _ _) ((congrArg nameB (two_list _ _)).trans (nm_ac c hc0 hc1 _ HD.out))).mono ?_
          rintro e w3 ⟨rfl, b3⟩
          go_wp2_with fail
          refine (name_is _ _ true (two_size _ _) ((congrArg nameB (two_list _ _)).trans (nm_ca c hc0 hc1 _ HL.out))).mono ?_
          rintro e w4 ⟨rfl, b4⟩
          go_wp2_with fail
          refine (awake_any _).mono ?_
          rintro e w5 ⟨rfl, b5⟩
          go_wp2_with fail
          go_ret
          exact ⟨rfl, below6 bA b1 b2 b3 b4 b5⟩
        · have g1 : decide ((1 : Int) ≤ (j : Int)) = true := by simp; omega
          have g2 : decide ((j : Int) ≤ 40) = false := by simp; omega
          have HK := Lib.hid (show (decide (1 ≤ j) && decide (j ≤ 40)) = false by simp; omega)
          clear hj hj43
          go_wp2_with fail
          refine (name_is _ _ false hszj (nm_reps j _ HK.out)).mono ?_
          rintro e w1 ⟨rfl, b1⟩
          go_wp2_with fail
          refine (name_is _ _ true (one_size _) (nm_one c hc0 hc1 _ HL.out)).mono ?_
          rintro e w2 ⟨rfl, b2⟩
          go_wp2_with fail
          refine (name_is _ _ true (two_size _ _) ((congrArg nameB (two_list _ _)).trans (nm_ac c hc0 hc1 _ HD.out))).mono ?_
          rintro e w3 ⟨rfl, b3⟩
          go_wp2_with fail
          refine (name_is _ _ true (two_size _ _) ((congrArg nameB (two_list _ _)).trans (nm_ca c hc0 hc1 _ HL.out))).mono ?_
          rintro e w4 ⟨rfl, b4⟩
          go_wp2_with fail
          refine (awake_any _).mono ?_
          rintro e w5 ⟨rfl, b5⟩
          go_wp2_with fail
          go_ret
          exact ⟨rfl, below6 bA b1 b2 b3 b4 b5⟩
      · have f1 : decide (97 ≤ c) = false := by simp; omega
        have f2 : decide (c ≤ 122) = true := by simp; omega
        have f3 : decide (65 ≤ c) = true := by simp; omega
        have f4 : decide (c ≤ 90) = false := by simp; omega
        have f5 : (c == 95) = true := by simp; omega
        have f6 : decide (48 ≤ c) = true := by simp; omega
        have f7 : decide (c ≤ 57) = false := by simp; omega
        have HL := Lib.hid (show letB c = true by simp [letB]; omega)
        have HD := Lib.hid (show (letB c || digB c) = true by simp [letB, digB]; omega)
        clear hx
        have js : j = 0 ∨ (1 ≤ j ∧ j ≤ 40) ∨ 41 ≤ j := by omega
        rcases js with hj | hj | hj
        · have g1 : decide ((1 : Int) ≤ (j : Int)) = false := by simp; omega
          have g2 : decide ((j : Int) ≤ 40) = true := by simp; omega
          have HK := Lib.hid (show (decide (1 ≤ j) && decide (j ≤ 40)) = false by simp; omega)
          clear hj hj43
          go_wp2_with fail
          refine (name_is _ _ false hszj (nm_reps j _ HK.out)).mono ?_
          rintro e w1 ⟨rfl, b1⟩
          go_wp2_with fail
          refine (name_is _ _ true (one_size _) (nm_one c hc0 hc1 _ HL.out)).mono ?_
          rintro e w2 ⟨rfl, b2⟩
          go_wp2_with fail
          refine (name_is _ _ true (two_size _ _) ((congrArg nameB (two_list _ _)).trans (nm_ac c hc0 hc1 _ HD.out))).mono ?_
          rintro e w3 ⟨rfl, b3⟩
          go_wp2_with fail
          refine (name_is _ _ true (two_size _ _) ((congrArg nameB (two_list _ _)).trans (nm_ca c hc0 hc1 _ HL.out))).mono ?_
          rintro e w4 ⟨rfl, b4⟩
          go_wp2_with fail
          refine (awake_any _).mono ?_
          rintro e w5 ⟨rfl, b5⟩
          go_wp2_with fail
          go_ret
          exact ⟨rfl, below6 bA b1 b2 b3 b4 b5⟩
        · have g1 : decide ((1 : Int) ≤ (j : Int)) = true := by simp; omega
          have g2 : decide ((j : Int) ≤ 40) = true := by simp; omega
          have HK := Lib.hid (show (decide (1 ≤ j) && decide (j ≤ 40)) = true by simp; omega)
          clear hj hj43
          go_wp2_with fail
          refine (name_is _ _ true hszj (nm_reps j _ HK.out)).mono ?_
          rintro e w1 ⟨rfl, b1⟩
          go_wp2_with fail
          refine (name_is _ _ true (one_size _) (nm_one c hc0 hc1 _ HL.out)).mono ?_
          rintro e w2 ⟨rfl, b2⟩
          go_wp2_with fail
          refine (name_is _ _ true (two_size _ _) ((congrArg nameB (two_list _ _)).trans (nm_ac c hc0 hc1 _ HD.out))).mono ?_
          rintro e w3 ⟨rfl, b3⟩
          go_wp2_with fail
          refine (name_is _ _ true (two_size _ _) ((congrArg nameB (two_list _ _)).trans (nm_ca c hc0 hc1 _ HL.out))).mono ?_
          rintro e w4 ⟨rfl, b4⟩
          go_wp2_with fail
          refine (awake_any _).mono ?_
          rintro e w5 ⟨rfl, b5⟩
          go_wp2_with fail
          go_ret
          exact ⟨rfl, below6 bA b1 b2 b3 b4 b5⟩
        · have g1 : decide ((1 : Int) ≤ (j : Int)) = true := by simp; omega
          have g2 : decide ((j : Int) ≤ 40) = false := by simp; omega
          have HK := Lib.hid (show (decide (1 ≤ j) && decide (j ≤ 40)) = false by simp; omega)
          clear hj hj43
          go_wp2_with fail
          refine (name_is _ _ false hszj (nm_reps j _ HK.out)).mono ?_
          rintro e w1 ⟨rfl, b1⟩
          go_wp2_with fail
          refine (name_is _ _ true (one_size _) (nm_one c hc0 hc1 _ HL.out)).mono ?_
          rintro e w2 ⟨rfl, b2⟩
          go_wp2_with fail
          refine (name_is _ _ true (two_size _ _) ((congrArg nameB (two_list _ _)).trans (nm_ac c hc0 hc1 _ HD.out))).mono ?_
          rintro e w3 ⟨rfl, b3⟩
          go_wp2_with fail
          refine (name_is _ _ true (two_size _ _) ((congrArg nameB (two_list _ _)).trans (nm_ca c hc0 hc1 _ HL.out))).mono ?_
          rintro e w4 ⟨rfl, b4⟩
          go_wp2_with fail
          refine (awake_any _).mono ?_
          rintro e w5 ⟨rfl, b5⟩
          go_wp2_with fail
          go_ret
          exact ⟨rfl, below6 bA b1 b2 b3 b4 b5⟩
      · have f1 : decide (97 ≤ c) = false := by simp; omega
        have f2 : decide (c ≤ 122) = true := by simp; omega
        have f3 : decide (65 ≤ c) = false := by simp; omega
        have f4 : decide (c ≤ 90) = true := by simp; omega
        have f5 : (c == 95) = false := by simp; omega
        have f6 : decide (48 ≤ c) = true := by simp; omega
        have f7 : decide (c ≤ 57) = true := by simp; omega
        have HL := Lib.hid (show letB c = false by simp [letB]; omega)
        have HD := Lib.hid (show (letB c || digB c) = true by simp [letB, digB]; omega)
        clear hx
        have js : j = 0 ∨ (1 ≤ j ∧ j ≤ 40) ∨ 41 ≤ j := by omega
        rcases js with hj | hj | hj
        · have g1 : decide ((1 : Int) ≤ (j : Int)) = false := by simp; omega
          have g2 : decide ((j : Int) ≤ 40) = true := by simp; omega
          have HK := Lib.hid (show (decide (1 ≤ j) && decide (j ≤ 40)) = false by simp; omega)
          clear hj hj43
          go_wp2_with fail
          refine (name_is _ _ false hszj (nm_reps j _ HK.out)).mono ?_
          rintro e w1 ⟨rfl, b1⟩
          go_wp2_with fail
          refine (name_is _ _ false (one_size _) (nm_one c hc0 hc1 _ HL.out)).mono ?_
          rintro e w2 ⟨rfl, b2⟩
          go_wp2_with fail
          refine (name_is _ _ true (two_size _ _) ((congrArg nameB (two_list _ _)).trans (nm_ac c hc0 hc1 _ HD.out))).mono ?_
          rintro e w3 ⟨rfl, b3⟩
          go_wp2_with fail
          refine (name_is _ _ false (two_size _ _) ((congrArg nameB (two_list _ _)).trans (nm_ca c hc0 hc1 _ HL.out))).mono ?_
          rintro e w4 ⟨rfl, b4⟩
          go_wp2_with fail
          refine (awake_any _).mono ?_
          rintro e w5 ⟨rfl, b5⟩
          go_wp2_with fail
          go_ret
          exact ⟨rfl, below6 bA b1 b2 b3 b4 b5⟩
        · have g1 : decide ((1 : Int) ≤ (j : Int)) = true := by simp; omega
          have g2 : decide ((j : Int) ≤ 40) = true := by simp; omega
          have HK := Lib.hid (show (decide (1 ≤ j) && decide (j ≤ 40)) = true by simp; omega)
          clear hj hj43
          go_wp2_with fail
          refine (name_is _ _ true hszj (nm_reps j _ HK.out)).mono ?_
          rintro e w1 ⟨rfl, b1⟩
          go_wp2_with fail
          refine (name_is _ _ false (one_size _) (nm_one c hc0 hc1 _ HL.out)).mono ?_
          rintro e w2 ⟨rfl, b2⟩
          go_wp2_with fail
          refine (name_is _ _ true (two_size _ _) ((congrArg nameB (two_list _ _)).trans (nm_ac c hc0 hc1 _ HD.out))).mono ?_
          rintro e w3 ⟨rfl, b3⟩
          go_wp2_with fail
          refine (name_is _ _ false (two_size _ _) ((congrArg nameB (two_list _ _)).trans (nm_ca c hc0 hc1 _ HL.out))).mono ?_
          rintro e w4 ⟨rfl, b4⟩
          go_wp2_with fail
          refine (awake_any _).mono ?_
          rintro e w5 ⟨rfl, b5⟩
          go_wp2_with fail
          go_ret
          exact ⟨rfl, below6 bA b1 b2 b3 b4 b5⟩
        · have g1 : decide ((1 : Int) ≤ (j : Int)) = true := by simp; omega
          have g2 : decide ((j : Int) ≤ 40) = false := by simp; omega
          have HK := Lib.hid (show (decide (1 ≤ j) && decide (j ≤ 40)) = false by simp; omega)
          clear hj hj43
          go_wp2_with fail
          refine (name_is _ _ false hszj (nm_reps j _ HK.out)).mono ?_
          rintro e w1 ⟨rfl, b1⟩
          go_wp2_with fail
          refine (name_is _ _ false (one_size _) (nm_one c hc0 hc1 _ HL.out)).mono ?_
          rintro e w2 ⟨rfl, b2⟩
          go_wp2_with fail
          refine (name_is _ _ true (two_size _ _) ((congrArg nameB (two_list _ _)).trans (nm_ac c hc0 hc1 _ HD.out))).mono ?_
          rintro e w3 ⟨rfl, b3⟩
          go_wp2_with fail
          refine (name_is _ _ false (two_size _ _) ((congrArg nameB (two_list _ _)).trans (nm_ca c hc0 hc1 _ HL.out))).mono ?_
          rintro e w4 ⟨rfl, b4⟩
          go_wp2_with fail
          refine (awake_any _).mono ?_
          rintro e w5 ⟨rfl, b5⟩
          go_wp2_with fail
          go_ret
          exact ⟨rfl, below6 bA b1 b2 b3 b4 b5⟩
      · have f1 : decide (97 ≤ c) = false := by simp; omega
        have f2 : decide (c ≤ 122) = true := by simp; omega
        have f3 : decide (65 ≤ c) = false := by simp; omega
        have f4 : decide (c ≤ 90) = true := by simp; omega
        have f5 : (c == 95) = false := by simp; omega
        have f6 : decide (48 ≤ c) = false := by simp; omega
        have f7 : decide (c ≤ 57) = true := by simp; omega
        have HL := Lib.hid (show letB c = false by simp [letB]; omega)
        have HD := Lib.hid (show (letB c || digB c) = false by simp [letB, digB]; omega)
        clear hx
        have js : j = 0 ∨ (1 ≤ j ∧ j ≤ 40) ∨ 41 ≤ j := by omega
        rcases js with hj | hj | hj
        · have g1 : decide ((1 : Int) ≤ (j : Int)) = false := by simp; omega
          have g2 : decide ((j : Int) ≤ 40) = true := by simp; omega
          have HK := Lib.hid (show (decide (1 ≤ j) && decide (j ≤ 40)) = false by simp; omega)
          clear hj hj43
          go_wp2_with fail
          refine (name_is _ _ false hszj (nm_reps j _ HK.out)).mono ?_
          rintro e w1 ⟨rfl, b1⟩
          go_wp2_with fail
          refine (name_is _ _ false (one_size _) (nm_one c hc0 hc1 _ HL.out)).mono ?_
          rintro e w2 ⟨rfl, b2⟩
          go_wp2_with fail
          refine (name_is _ _ false (two_size _ _) ((congrArg nameB (two_list _ _)).trans (nm_ac c hc0 hc1 _ HD.out))).mono ?_
          rintro e w3 ⟨rfl, b3⟩
          go_wp2_with fail
          refine (name_is _ _ false (two_size _ _) ((congrArg nameB (two_list _ _)).trans (nm_ca c hc0 hc1 _ HL.out))).mono ?_
          rintro e w4 ⟨rfl, b4⟩
          go_wp2_with fail
          refine (awake_any _).mono ?_
          rintro e w5 ⟨rfl, b5⟩
          go_wp2_with fail
          go_ret
          exact ⟨rfl, below6 bA b1 b2 b3 b4 b5⟩
        · have g1 : decide ((1 : Int) ≤ (j : Int)) = true := by simp; omega
          have g2 : decide ((j : Int) ≤ 40) = true := by simp; omega
          have HK := Lib.hid (show (decide (1 ≤ j) && decide (j ≤ 40)) = true by simp; omega)
          clear hj hj43
          go_wp2_with fail
          refine (name_is _ _ true hszj (nm_reps j _ HK.out)).mono ?_
          rintro e w1 ⟨rfl, b1⟩
          go_wp2_with fail
          refine (name_is _ _ false (one_size _) (nm_one c hc0 hc1 _ HL.out)).mono ?_
          rintro e w2 ⟨rfl, b2⟩
          go_wp2_with fail
          refine (name_is _ _ false (two_size _ _) ((congrArg nameB (two_list _ _)).trans (nm_ac c hc0 hc1 _ HD.out))).mono ?_
          rintro e w3 ⟨rfl, b3⟩
          go_wp2_with fail
          refine (name_is _ _ false (two_size _ _) ((congrArg nameB (two_list _ _)).trans (nm_ca c hc0 hc1 _ HL.out))).mono ?_
          rintro e w4 ⟨rfl, b4⟩
          go_wp2_with fail
          refine (awake_any _).mono ?_
          rintro e w5 ⟨rfl, b5⟩
          go_wp2_with fail
          go_ret
          exact ⟨rfl, below6 bA b1 b2 b3 b4 b5⟩
        · have g1 : decide ((1 : Int) ≤ (j : Int)) = true := by simp; omega
          have g2 : decide ((j : Int) ≤ 40) = false := by simp; omega
          have HK := Lib.hid (show (decide (1 ≤ j) && decide (j ≤ 40)) = false by simp; omega)
          clear hj hj43
          go_wp2_with fail
          refine (name_is _ _ false hszj (nm_reps j _ HK.out)).mono ?_
          rintro e w1 ⟨rfl, b1⟩
          go_wp2_with fail
          refine (name_is _ _ false (one_size _) (nm_one c hc0 hc1 _ HL.out)).mono ?_
          rintro e w2 ⟨rfl, b2⟩
          go_wp2_with fail
          refine (name_is _ _ false (two_size _ _) ((congrArg nameB (two_list _ _)).trans (nm_ac c hc0 hc1 _ HD.out))).mono ?_
          rintro e w3 ⟨rfl, b3⟩
          go_wp2_with fail
          refine (name_is _ _ false (two_size _ _) ((congrArg nameB (two_list _ _)).trans (nm_ca c hc0 hc1 _ HL.out))).mono ?_
          rintro e w4 ⟨rfl, b4⟩
          go_wp2_with fail
          refine (awake_any _).mono ?_
          rintro e w5 ⟨rfl, b5⟩
          go_wp2_with fail
          go_ret
          exact ⟨rfl, below6 bA b1 b2 b3 b4 b5⟩
      · have f1 : decide (97 ≤ c) = false := by simp; omega
        have f2 : decide (c ≤ 122) = true := by simp; omega
        have f3 : decide (65 ≤ c) = false := by simp; omega
        have f4 : decide (c ≤ 90) = true := by simp; omega
        have f5 : (c == 95) = false := by simp; omega
        have f6 : decide (48 ≤ c) = true := by simp; omega
        have f7 : decide (c ≤ 57) = false := by simp; omega
        have HL := Lib.hid (show letB c = false by simp [letB]; omega)
        have HD := Lib.hid (show (letB c || digB c) = false by simp [letB, digB]; omega)
        clear hx
        have js : j = 0 ∨ (1 ≤ j ∧ j ≤ 40) ∨ 41 ≤ j := by omega
        rcases js with hj | hj | hj
        · have g1 : decide ((1 : Int) ≤ (j : Int)) = false := by simp; omega
          have g2 : decide ((j : Int) ≤ 40) = true := by simp; omega
          have HK := Lib.hid (show (decide (1 ≤ j) && decide (j ≤ 40)) = false by simp; omega)
          clear hj hj43
          go_wp2_with fail
          refine (name_is _ _ false hszj (nm_reps j _ HK.out)).mono ?_
          rintro e w1 ⟨rfl, b1⟩
          go_wp2_with fail
          refine (name_is _ _ false (one_size _) (nm_one c hc0 hc1 _ HL.out)).mono ?_
          rintro e w2 ⟨rfl, b2⟩
          go_wp2_with fail
          refine (name_is _ _ false (two_size _ _) ((congrArg nameB (two_list _ _)).trans (nm_ac c hc0 hc1 _ HD.out))).mono ?_
          rintro e w3 ⟨rfl, b3⟩
          go_wp2_with fail
          refine (name_is _ _ false (two_size _ _) ((congrArg nameB (two_list _ _)).trans (nm_ca c hc0 hc1 _ HL.out))).mono ?_
          rintro e w4 ⟨rfl, b4⟩
          go_wp2_with fail
          refine (awake_any _).mono ?_
          rintro e w5 ⟨rfl, b5⟩
          go_wp2_with fail
          go_ret
          exact ⟨rfl, below6 bA b1 b2 b3 b4 b5⟩
        · have g1 : decide ((1 : Int) ≤ (j : Int)) = true := by simp; omega
          have g2 : decide ((j : Int) ≤ 40) = true := by simp; omega
          have HK := Lib.hid (show (decide (1 ≤ j) && decide (j ≤ 40)) = true by simp; omega)
          clear hj hj43
          go_wp2_with fail
          refine (name_is _ _ true hszj (nm_reps j _ HK.out)).mono ?_
          rintro e w1 ⟨rfl, b1⟩
          go_wp2_with fail
          refine (name_is _ _ false (one_size _) (nm_one c hc0 hc1 _ HL.out)).mono ?_
          rintro e w2 ⟨rfl, b2⟩
          go_wp2_with fail
          refine (name_is _ _ false (two_size _ _) ((congrArg nameB (two_list _ _)).trans (nm_ac c hc0 hc1 _ HD.out))).mono ?_
          rintro e w3 ⟨rfl, b3⟩
          go_wp2_with fail
          refine (name_is _ _ false (two_size _ _) ((congrArg nameB (two_list _ _)).trans (nm_ca c hc0 hc1 _ HL.out))).mono ?_
          rintro e w4 ⟨rfl, b4⟩
          go_wp2_with fail
          refine (awake_any _).mono ?_
          rintro e w5 ⟨rfl, b5⟩
          go_wp2_with fail
          go_ret
          exact ⟨rfl, below6 bA b1 b2 b3 b4 b5⟩
        · have g1 : decide ((1 : Int) ≤ (j : Int)) = true := by simp; omega
          have g2 : decide ((j : Int) ≤ 40) = false := by simp; omega
          have HK := Lib.hid (show (decide (1 ≤ j) && decide (j ≤ 40)) = false by simp; omega)
          clear hj hj43
          go_wp2_with fail
          refine (name_is _ _ false hszj (nm_reps j _ HK.out)).mono ?_
          rintro e w1 ⟨rfl, b1⟩
          go_wp2_with fail
          refine (name_is _ _ false (one_size _) (nm_one c hc0 hc1 _ HL.out)).mono ?_
          rintro e w2 ⟨rfl, b2⟩
          go_wp2_with fail
          refine (name_is _ _ false (two_size _ _) ((congrArg nameB (two_list _ _)).trans (nm_ac c hc0 hc1 _ HD.out))).mono ?_
          rintro e w3 ⟨rfl, b3⟩
          go_wp2_with fail
          refine (name_is _ _ false (two_size _ _) ((congrArg nameB (two_list _ _)).trans (nm_ca c hc0 hc1 _ HL.out))).mono ?_
          rintro e w4 ⟨rfl, b4⟩
          go_wp2_with fail
          refine (awake_any _).mono ?_
          rintro e w5 ⟨rfl, b5⟩
          go_wp2_with fail
          go_ret
          exact ⟨rfl, below6 bA b1 b2 b3 b4 b5⟩
      · have f1 : decide (97 ≤ c) = false := by simp; omega
        have f2 : decide (c ≤ 122) = true := by simp; omega
        have f3 : decide (65 ≤ c) = true := by simp; omega
        have f4 : decide (c ≤ 90) = false := by simp; omega
        have f5 : (c == 95) = false := by simp; omega
        have f6 : decide (48 ≤ c) = true := by simp; omega
        have f7 : decide (c ≤ 57) = false := by simp; omega
        have HL := Lib.hid (show letB c = false by simp [letB]; omega)
        have HD := Lib.hid (show (letB c || digB c) = false by simp [letB, digB]; omega)
        clear hx
        have js : j = 0 ∨ (1 ≤ j ∧ j ≤ 40) ∨ 41 ≤ j := by omega
        rcases js with hj | hj | hj
        · have g1 : decide ((1 : Int) ≤ (j : Int)) = false := by simp; omega
          have g2 : decide ((j : Int) ≤ 40) = true := by simp; omega
          have HK := Lib.hid (show (decide (1 ≤ j) && decide (j ≤ 40)) = false by simp; omega)
          clear hj hj43
          go_wp2_with fail
          refine (name_is _ _ false hszj (nm_reps j _ HK.out)).mono ?_
          rintro e w1 ⟨rfl, b1⟩
          go_wp2_with fail
          refine (name_is _ _ false (one_size _) (nm_one c hc0 hc1 _ HL.out)).mono ?_
          rintro e w2 ⟨rfl, b2⟩
          go_wp2_with fail
          refine (name_is _ _ false (two_size _ _) ((congrArg nameB (two_list _ _)).trans (nm_ac c hc0 hc1 _ HD.out))).mono ?_
          rintro e w3 ⟨rfl, b3⟩
          go_wp2_with fail
          refine (name_is _ _ false (two_size _ _) ((congrArg nameB (two_list _ _)).trans (nm_ca c hc0 hc1 _ HL.out))).mono ?_
          rintro e w4 ⟨rfl, b4⟩
          go_wp2_with fail
          refine (awake_any _).mono ?_
          rintro e w5 ⟨rfl, b5⟩
          go_wp2_with fail
          go_ret
          exact ⟨rfl, below6 bA b1 b2 b3 b4 b5⟩
        · have g1 : decide ((1 : Int) ≤ (j : Int)) = true := by simp; omega
          have g2 : decide ((j : Int) ≤ 40) = true := by simp; omega
          have HK := Lib.hid (show (decide (1 ≤ j) && decide (j ≤ 40)) = true by simp; omega)
          clear hj hj43
          go_wp2_with fail
          refine (name_is _ _ true hszj (nm_reps j _ HK.out)).mono ?_
          rintro e w1 ⟨rfl, b1⟩
          go_wp2_with fail
          refine (name_is _ _ false (one_size _) (nm_one c hc0 hc1 _ HL.out)).mono ?_
          rintro e w2 ⟨rfl, b2⟩
          go_wp2_with fail
          refine (name_is _ _ false (two_size _ _) ((congrArg nameB (two_list _ _)).trans (nm_ac c hc0 hc1 _ HD.out))).mono ?_
          rintro e w3 ⟨rfl, b3⟩
          go_wp2_with fail
          refine (name_is _ _ false (two_size _ _) ((congrArg nameB (two_list _ _)).trans (nm_ca c hc0 hc1 _ HL.out))).mono ?_
          rintro e w4 ⟨rfl, b4⟩
          go_wp2_with fail
          refine (awake_any _).mono ?_
          rintro e w5 ⟨rfl, b5⟩
          go_wp2_with fail
          go_ret
          exact ⟨rfl, below6 bA b1 b2 b3 b4 b5⟩
        · have g1 : decide ((1 : Int) ≤ (j : Int)) = true := by simp; omega
          have g2 : decide ((j : Int) ≤ 40) = false := by simp; omega
          have HK := Lib.hid (show (decide (1 ≤ j) && decide (j ≤ 40)) = false by simp; omega)
          clear hj hj43
          go_wp2_with fail
          refine (name_is _ _ false hszj (nm_reps j _ HK.out)).mono ?_
          rintro e w1 ⟨rfl, b1⟩
          go_wp2_with fail
          refine (name_is _ _ false (one_size _) (nm_one c hc0 hc1 _ HL.out)).mono ?_
          rintro e w2 ⟨rfl, b2⟩
          go_wp2_with fail
          refine (name_is _ _ false (two_size _ _) ((congrArg nameB (two_list _ _)).trans (nm_ac c hc0 hc1 _ HD.out))).mono ?_
          rintro e w3 ⟨rfl, b3⟩
          go_wp2_with fail
          refine (name_is _ _ false (two_size _ _) ((congrArg nameB (two_list _ _)).trans (nm_ca c hc0 hc1 _ HL.out))).mono ?_
          rintro e w4 ⟨rfl, b4⟩
          go_wp2_with fail
          refine (awake_any _).mono ?_
          rintro e w5 ⟨rfl, b5⟩
          go_wp2_with fail
          go_ret
          exact ⟨rfl, below6 bA b1 b2 b3 b4 b5⟩
      · have f1 : decide (97 ≤ c) = false := by simp; omega
        have f2 : decide (c ≤ 122) = true := by simp; omega
        have f3 : decide (65 ≤ c) = true := by simp; omega
        have f4 : decide (c ≤ 90) = false := by simp; omega
        have f5 : (c == 95) = false := by simp; omega
        have f6 : decide (48 ≤ c) = true := by simp; omega
        have f7 : decide (c ≤ 57) = false := by simp; omega
        have HL := Lib.hid (show letB c = false by simp [letB]; omega)
        have HD := Lib.hid (show (letB c || digB c) = false by simp [letB, digB]; omega)
        clear hx
        have js : j = 0 ∨ (1 ≤ j ∧ j ≤ 40) ∨ 41 ≤ j := by omega
        rcases js with hj | hj | hj
        · have g1 : decide ((1 : Int) ≤ (j : Int)) = false := by simp; omega
          have g2 : decide ((j : Int) ≤ 40) = true := by simp; omega
          have HK := Lib.hid (show (decide (1 ≤ j) && decide (j ≤ 40)) = false by simp; omega)
          clear hj hj43
          go_wp2_with fail
          refine (name_is _ _ false hszj (nm_reps j _ HK.out)).mono ?_
          rintro e w1 ⟨rfl, b1⟩
          go_wp2_with fail
          refine (name_is _ _ false (one_size _) (nm_one c hc0 hc1 _ HL.out)).mono ?_
          rintro e w2 ⟨rfl, b2⟩
          go_wp2_with fail
          refine (name_is _ _ false (two_size _ _) ((congrArg nameB (two_list _ _)).trans (nm_ac c hc0 hc1 _ HD.out))).mono ?_
          rintro e w3 ⟨rfl, b3⟩
          go_wp2_with fail
          refine (name_is _ _ false (two_size _ _) ((congrArg nameB (two_list _ _)).trans (nm_ca c hc0 hc1 _ HL.out))).mono ?_
          rintro e w4 ⟨rfl, b4⟩
          go_wp2_with fail
          refine (awake_any _).mono ?_
          rintro e w5 ⟨rfl, b5⟩
          go_wp2_with fail
          go_ret
          exact ⟨rfl, below6 bA b1 b2 b3 b4 b5⟩
        · have g1 : decide ((1 : Int) ≤ (j : Int)) = true := by simp; omega
          have g2 : decide ((j : Int) ≤ 40) = true := by simp; omega
          have HK := Lib.hid (show (decide (1 ≤ j) && decide (j ≤ 40)) = true by simp; omega)
          clear hj hj43
          go_wp2_with fail
          refine (name_is _ _ true hszj (nm_reps j _ HK.out)).mono ?_
          rintro e w1 ⟨rfl, b1⟩
          go_wp2_with fail
          refine (name_is _ _ false (one_size _) (nm_one c hc0 hc1 _ HL.out)).mono ?_
          rintro e w2 ⟨rfl, b2⟩
          go_wp2_with fail
          refine (name_is _ _ false (two_size _ _) ((congrArg nameB (two_list _ _)).trans (nm_ac c hc0 hc1 _ HD.out))).mono ?_
          rintro e w3 ⟨rfl, b3⟩
          go_wp2_with fail
          refine (name_is _ _ false (two_size _ _) ((congrArg nameB (two_list _ _)).trans (nm_ca c hc0 hc1 _ HL.out))).mono ?_
          rintro e w4 ⟨rfl, b4⟩
          go_wp2_with fail
          refine (awake_any _).mono ?_
          rintro e w5 ⟨rfl, b5⟩
          go_wp2_with fail
          go_ret
          exact ⟨rfl, below6 bA b1 b2 b3 b4 b5⟩
        · have g1 : decide ((1 : Int) ≤ (j : Int)) = true := by simp; omega
          have g2 : decide ((j : Int) ≤ 40) = false := by simp; omega
          have HK := Lib.hid (show (decide (1 ≤ j) && decide (j ≤ 40)) = false by simp; omega)
          clear hj hj43
          go_wp2_with fail
          refine (name_is _ _ false hszj (nm_reps j _ HK.out)).mono ?_
          rintro e w1 ⟨rfl, b1⟩
          go_wp2_with fail
          refine (name_is _ _ false (one_size _) (nm_one c hc0 hc1 _ HL.out)).mono ?_
          rintro e w2 ⟨rfl, b2⟩
          go_wp2_with fail
          refine (name_is _ _ false (two_size _ _) ((congrArg nameB (two_list _ _)).trans (nm_ac c hc0 hc1 _ HD.out))).mono ?_
          rintro e w3 ⟨rfl, b3⟩
          go_wp2_with fail
          refine (name_is _ _ false (two_size _ _) ((congrArg nameB (two_list _ _)).trans (nm_ca c hc0 hc1 _ HL.out))).mono ?_
          rintro e w4 ⟨rfl, b4⟩
          go_wp2_with fail
          refine (awake_any _).mono ?_
          rintro e w5 ⟨rfl, b5⟩
          go_wp2_with fail
          go_ret
          exact ⟨rfl, below6 bA b1 b2 b3 b4 b5⟩
      · have f1 : decide (97 ≤ c) = true := by simp; omega
        have f2 : decide (c ≤ 122) = false := by simp; omega
        have f3 : decide (65 ≤ c) = true := by simp; omega
        have f4 : decide (c ≤ 90) = false := by simp; omega
        have f5 : (c == 95) = false := by simp; omega
        have f6 : decide (48 ≤ c) = true := by simp; omega
        have f7 : decide (c ≤ 57) = false := by simp; omega
        have HL := Lib.hid (show letB c = false by simp [letB]; omega)
        have HD := Lib.hid (show (letB c || digB c) = false by simp [letB, digB]; omega)
        clear hx
        have js : j = 0 ∨ (1 ≤ j ∧ j ≤ 40) ∨ 41 ≤ j := by omega
        rcases js with hj | hj | hj
        · have g1 : decide ((1 : Int) ≤ (j : Int)) = false := by simp; omega
          have g2 : decide ((j : Int) ≤ 40) = true := by simp; omega
          have HK := Lib.hid (show (decide (1 ≤ j) && decide (j ≤ 40)) = false by simp; omega)
          clear hj hj43
          go_wp2_with fail
          refine (name_is _ _ false hszj (nm_reps j _ HK.out)).mono ?_
          rintro e w1 ⟨rfl, b1⟩
          go_wp2_with fail
          refine (name_is _ _ false (one_size _) (nm_one c hc0 hc1 _ HL.out)).mono ?_
          rintro e w2 ⟨rfl, b2⟩
          go_wp2_with fail
          refine (name_is _ _ false (two_size _ _) ((congrArg nameB (two_list _ _)).trans (nm_ac c hc0 hc1 _ HD.out))).mono ?_
          rintro e w3 ⟨rfl, b3⟩
          go_wp2_with fail
          refine (name_is _ _ false (two_size _ _) ((congrArg nameB (two_list _ _)).trans (nm_ca c hc0 hc1 _ HL.out))).mono ?_
          rintro e w4 ⟨rfl, b4⟩
          go_wp2_with fail
          refine (awake_any _).mono ?_
          rintro e w5 ⟨rfl, b5⟩
          go_wp2_with fail
          go_ret
          exact ⟨rfl, below6 bA b1 b2 b3 b4 b5⟩
        · have g1 : decide ((1 : Int) ≤ (j : Int)) = true := by simp; omega
          have g2 : decide ((j : Int) ≤ 40) = true := by simp; omega
          have HK := Lib.hid (show (decide (1 ≤ j) && decide (j ≤ 40)) = true by simp; omega)
          clear hj hj43
          go_wp2_with fail
          refine (name_is _ _ true hszj (nm_reps j _ HK.out)).mono ?_
          rintro e w1 ⟨rfl, b1⟩
          go_wp2_with fail
          refine (name_is _ _ false (one_size _) (nm_one c hc0 hc1 _ HL.out)).mono ?_
          rintro e w2 ⟨rfl, b2⟩
          go_wp2_with fail
          refine (name_is _ _ false (two_size _ _) ((congrArg nameB (two_list _ _)).trans (nm_ac c hc0 hc1 _ HD.out))).mono ?_
          rintro e w3 ⟨rfl, b3⟩
          go_wp2_with fail
          refine (name_is _ _ false (two_size _ _) ((congrArg nameB (two_list _ _)).trans (nm_ca c hc0 hc1 _ HL.out))).mono ?_
          rintro e w4 ⟨rfl, b4⟩
          go_wp2_with fail
          refine (awake_any _).mono ?_
          rintro e w5 ⟨rfl, b5⟩
          go_wp2_with fail
          go_ret
          exact ⟨rfl, below6 bA b1 b2 b3 b4 b5⟩
        · have g1 : decide ((1 : Int) ≤ (j : Int)) = true := by simp; omega
          have g2 : decide ((j : Int) ≤ 40) = false := by simp; omega
          have HK := Lib.hid (show (decide (1 ≤ j) && decide (j ≤ 40)) = false by simp; omega)
          clear hj hj43
          go_wp2_with fail
          refine (name_is _ _ false hszj (nm_reps j _ HK.out)).mono ?_
          rintro e w1 ⟨rfl, b1⟩
          go_wp2_with fail
          refine (name_is _ _ false (one_size _) (nm_one c hc0 hc1 _ HL.out)).mono ?_
          rintro e w2 ⟨rfl, b2⟩
          go_wp2_with fail
          refine (name_is _ _ false (two_size _ _) ((congrArg nameB (two_list _ _)).trans (nm_ac c hc0 hc1 _ HD.out))).mono ?_
          rintro e w3 ⟨rfl, b3⟩
          go_wp2_with fail
          refine (name_is _ _ false (two_size _ _) ((congrArg nameB (two_list _ _)).trans (nm_ca c hc0 hc1 _ HL.out))).mono ?_
          rintro e w4 ⟨rfl, b4⟩
          go_wp2_with fail
          refine (awake_any _).mono ?_
          rintro e w5 ⟨rfl, b5⟩
          go_wp2_with fail
          go_ret
          exact ⟨rfl, below6 bA b1 b2 b3 b4 b5⟩

end Go.Proofs.Ytaafnkhemklpeaa
