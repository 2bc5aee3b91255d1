/-
  refectorylaw01.RunesWrong answers true at every input.
-/
import Derived.Test.YtaafnkhemklpeaaAwake
import Derived.Test.YtaafnkhemklpeaaPure2
namespace Go.Proofs.Ytaafnkhemklpeaa
open Go.RowKit

def wrongS (k : Nat) : ByteArray := ⟨(wrongB k).toArray⟩

theorem wrong_index0 (w : World) : (Instr.index 37 (.agg #[.string ⟨#[192, 128]⟩, .string ⟨#[237, 160, 128]⟩, .string ⟨#[245, 128, 128, 128]⟩, .string ⟨#[128]⟩, .string ⟨#[226, 130]⟩, .string ⟨#[240, 128, 128, 128]⟩, .string ⟨#[255]⟩, .string ⟨#[195, 65]⟩]) (.int .i64 0)).run Try.prog w = .ok (.string (wrongS 0)) w := by kernel_rfl
theorem wrong_index1 (w : World) : (Instr.index 37 (.agg #[.string ⟨#[192, 128]⟩, .string ⟨#[237, 160, 128]⟩, .string ⟨#[245, 128, 128, 128]⟩, .string ⟨#[128]⟩, .string ⟨#[226, 130]⟩, .string ⟨#[240, 128, 128, 128]⟩, .string ⟨#[255]⟩, .string ⟨#[195, 65]⟩]) (.int .i64 1)).run Try.prog w = .ok (.string (wrongS 1)) w := by kernel_rfl
theorem wrong_index2 (w : World) : (Instr.index 37 (.agg #[.string ⟨#[192, 128]⟩, .string ⟨#[237, 160, 128]⟩, .string ⟨#[245, 128, 128, 128]⟩, .string ⟨#[128]⟩, .string ⟨#[226, 130]⟩, .string ⟨#[240, 128, 128, 128]⟩, .string ⟨#[255]⟩, .string ⟨#[195, 65]⟩]) (.int .i64 2)).run Try.prog w = .ok (.string (wrongS 2)) w := by kernel_rfl
theorem wrong_index3 (w : World) : (Instr.index 37 (.agg #[.string ⟨#[192, 128]⟩, .string ⟨#[237, 160, 128]⟩, .string ⟨#[245, 128, 128, 128]⟩, .string ⟨#[128]⟩, .string ⟨#[226, 130]⟩, .string ⟨#[240, 128, 128, 128]⟩, .string ⟨#[255]⟩, .string ⟨#[195, 65]⟩]) (.int .i64 3)).run Try.prog w = .ok (.string (wrongS 3)) w := by kernel_rfl
theorem wrong_index4 (w : World) : (Instr.index 37 (.agg #[.string ⟨#[192, 128]⟩, .string ⟨#[237, 160, 128]⟩, .string ⟨#[245, 128, 128, 128]⟩, .string ⟨#[128]⟩, .string ⟨#[226, 130]⟩, .string ⟨#[240, 128, 128, 128]⟩, .string ⟨#[255]⟩, .string ⟨#[195, 65]⟩]) (.int .i64 4)).run Try.prog w = .ok (.string (wrongS 4)) w := by kernel_rfl
theorem wrong_index5 (w : World) : (Instr.index 37 (.agg #[.string ⟨#[192, 128]⟩, .string ⟨#[237, 160, 128]⟩, .string ⟨#[245, 128, 128, 128]⟩, .string ⟨#[128]⟩, .string ⟨#[226, 130]⟩, .string ⟨#[240, 128, 128, 128]⟩, .string ⟨#[255]⟩, .string ⟨#[195, 65]⟩]) (.int .i64 5)).run Try.prog w = .ok (.string (wrongS 5)) w := by kernel_rfl
theorem wrong_index6 (w : World) : (Instr.index 37 (.agg #[.string ⟨#[192, 128]⟩, .string ⟨#[237, 160, 128]⟩, .string ⟨#[245, 128, 128, 128]⟩, .string ⟨#[128]⟩, .string ⟨#[226, 130]⟩, .string ⟨#[240, 128, 128, 128]⟩, .string ⟨#[255]⟩, .string ⟨#[195, 65]⟩]) (.int .i64 6)).run Try.prog w = .ok (.string (wrongS 6)) w := by kernel_rfl
theorem wrong_index7 (w : World) : (Instr.index 37 (.agg #[.string ⟨#[192, 128]⟩, .string ⟨#[237, 160, 128]⟩, .string ⟨#[245, 128, 128, 128]⟩, .string ⟨#[128]⟩, .string ⟨#[226, 130]⟩, .string ⟨#[240, 128, 128, 128]⟩, .string ⟨#[255]⟩, .string ⟨#[195, 65]⟩]) (.int .i64 7)).run Try.prog w = .ok (.string (wrongS 7)) w := by kernel_rfl
theorem wrong_index (k : Nat) (hk : k < 8) (w : World) : (Instr.index 37 (.agg #[.string ⟨#[192, 128]⟩, .string ⟨#[237, 160, 128]⟩, .string ⟨#[245, 128, 128, 128]⟩, .string ⟨#[128]⟩, .string ⟨#[226, 130]⟩, .string ⟨#[240, 128, 128, 128]⟩, .string ⟨#[255]⟩, .string ⟨#[195, 65]⟩]) (.int .i64 k)).run Try.prog w = .ok (.string (wrongS k)) w := by
  have h : k = 0 ∨ k = 1 ∨ k = 2 ∨ k = 3 ∨ k = 4 ∨ k = 5 ∨ k = 6 ∨ k = 7 := by omega
  rcases h with rfl | rfl | rfl | rfl | rfl | rfl | rfl | rfl
  · exact wrong_index0 w
  · exact wrong_index1 w
  · exact wrong_index2 w
  · exact wrong_index3 w
  · exact wrong_index4 w
  · exact wrong_index5 w
  · exact wrong_index6 w
  · exact wrong_index7 w

theorem valid_is (s : ByteArray) (w : World) (b : Bool) (h : Lib.validD s.data.toList = b) :
    Calls Try.prog 12 #[.string s] w fun e w' => e = .returned (.bool b) ∧ Below w.heap.size w w' := by
  subst h
  exact valid_any s w

theorem below3 {w a b c : World} (h0 : Below w.heap.size w a) (h1 : Below a.heap.size a b) (h2 : Below b.heap.size b c) : Below w.heap.size w c := by
  have s0 := h0.size
  have s1 := h1.size
  exact (h0.trans (h1.mono (by omega))).trans (h2.mono (by omega))
theorem below2 {w a b : World} (h0 : Below w.heap.size w a) (h1 : Below a.heap.size a b) : Below w.heap.size w b := by
  have s0 := h0.size
  exact h0.trans (h1.mono (by omega))

theorem app_list (a b : ByteArray) : (a ++ b).data.toList = a.data.toList ++ b.data.toList := by
  rw [ByteArray.data_append]; simp

theorem wrongS_size (k : Nat) : (wrongS k).size ≤ 4 := by
  unfold wrongS wrongB
  split <;> decide

theorem wrong_all (k : Nat) (a b : ByteArray) (ha : Lib.validD a.data.toList = true) (hb : Lib.validD b.data.toList = true) : Lib.validD (a ++ wrongS k ++ b).data.toList = false := by
  rw [app_list, app_list, List.append_assoc]
  exact wrong_invalid k _ _ ha hb
theorem wrong_unq (k : Nat) (a b : ByteArray) (ha : Lib.validD a.data.toList = true) (hb : Lib.validD b.data.toList = true) : unqP ((⟨#[34]⟩ : ByteArray) ++ (a ++ wrongS k ++ b) ++ ⟨#[34]⟩).data.toList = none := by
  have h : Lib.validD ((⟨#[34]⟩ : ByteArray) ++ (a ++ wrongS k ++ b) ++ ⟨#[34]⟩).data.toList = false := by
    rw [app_list, app_list, app_list, app_list]
    have e : ∀ x y z : List UInt8, (⟨#[34]⟩ : ByteArray).data.toList ++ (x ++ y ++ z) ++ (⟨#[34]⟩ : ByteArray).data.toList = (34 :: x) ++ (y ++ (z ++ [34])) := by intro x y z; simp
    rw [e]
    exact wrong_invalid k _ _ (by rw [Lib.validD_cons _ _ (by decide)]; exact ha) (validD_both _ _ hb (by decide +kernel))
  exact unqP_no _ (fun h' => by rw [h] at h'; exact absurd h'.2.2.2 (by simp))

theorem unq_none (s : ByteArray) (w : World) (hs : s.size ≤ 1000000000) (h : unqP s.data.toList = none) :
    Calls Try.prog 10 #[.string s] w fun e w' => e = .returned (.tuple #[.string ⟨#[]⟩, .bool false]) ∧ Below w.heap.size w w' := by
  refine (unquote_any s w hs).mono ?_
  rintro e w' hp
  rw [h] at hp
  exact ⟨hp.2, hp.1⟩
theorem quote_none (s : ByteArray) (w : World) (hs : s.size ≤ 1000000000) (h : Lib.validD s.data.toList = false) :
    Calls Try.prog 16 #[.string s] w fun e w' => e = .returned (.string ⟨#[]⟩) ∧ Below w.heap.size w w' := by
  refine (quote_any s w hs).mono ?_
  rintro e w' hp
  have : quoteB s.data.toList = [] := by unfold quoteB; rw [h]; rfl
  rw [this] at hp
  exact hp

set_option maxHeartbeats 4000000 in
set_option maxRecDepth 100000 in
theorem runesWrong_walk (n : Int) (a b : ByteArray) (ha : a.size ≤ 140737488355328) (hb : b.size ≤ 140737488355328) (w : World) :
    Calls Try.prog 8 #[.int .i64 n, .string a, .string b] w (TrueBelow w) := by
  by_cases hbig : 500 < a.size + b.size
  · have hbig' : decide ((500 : Int) < (a.size : Int) + (b.size : Int)) = true := by simp; omega
    go_enter Try.func8, Try.ntmps8
    go_wp2_with fail
    refine (awake_any _).mono ?_
    rintro e w1 ⟨rfl, b1⟩
    go_wp2_with fail
    go_ret
    exact ⟨rfl, b1⟩
  · have hbig' : decide ((500 : Int) < (a.size : Int) + (b.size : Int)) = false := by simp; omega
    cases hva : Lib.validD a.data.toList with
    | false =>
      have HV := Lib.hid hva
      clear hva
      go_enter Try.func8, Try.ntmps8
      go_wp2_with fail
      refine (valid_is _ _ false HV.out).mono ?_
      rintro e w1 ⟨rfl, b1⟩
      go_wp2_with fail
      refine (awake_any _).mono ?_
      rintro e w2 ⟨rfl, b2⟩
      go_wp2_with fail
      go_ret
      exact ⟨rfl, below2 b1 b2⟩
    | true =>
      have HV := Lib.hid hva
      clear hva
      cases hvb : Lib.validD b.data.toList with
      | false =>
        have HVB := Lib.hid hvb
        clear hvb
        go_enter Try.func8, Try.ntmps8
        go_wp2_with fail
        refine (valid_is _ _ true HV.out).mono ?_
        rintro e w1 ⟨rfl, b1⟩
        go_wp2_with fail
        refine (valid_is _ _ false HVB.out).mono ?_
        rintro e w2 ⟨rfl, b2⟩
        go_wp2_with fail
        refine (awake_any _).mono ?_
        rintro e w3 ⟨rfl, b3⟩
        go_wp2_with fail
        go_ret
        exact ⟨rfl, below3 b1 b2 b3⟩
      | true =>
        have HVB := Lib.hid hvb
        clear hvb
        have k0 := Int.emod_nonneg n (by omega : (8 : Int) ≠ 0)
        have k1 := Int.emod_lt_of_pos n (by omega : (0 : Int) < 8)
        obtain ⟨k, hk⟩ : ∃ k : Nat, n % 8 = k := ⟨(n % 8).toNat, by omega⟩
        have hk8 : k < 8 := by omega
        have hix := wrong_index k hk8
        have hws := wrongS_size k
        have hz : (a ++ wrongS k).size = a.size + (wrongS k).size := ByteArray.size_append
        have HK := Lib.hid hk
        clear hk
        go_enter Try.func8, Try.ntmps8
        go_wp2_with fail
        refine (valid_is _ _ true HV.out).mono ?_
        rintro e w1 ⟨rfl, b1⟩
        go_wp2_with fail
        refine (valid_is _ _ true HVB.out).mono ?_
        rintro e w2 ⟨rfl, b2⟩
        go_wp2_with fail
        refine (place_any _ _ _ (by omega) (by omega)).mono ?_
        rintro e w' ⟨rfl, rfl⟩
        rw [HK.out]
        go_wp2_with fail
        have hz2 : (a ++ wrongS k ++ b).size = a.size + (wrongS k).size + b.size := by rw [ByteArray.size_append, ByteArray.size_append]
        have hz3 : ((⟨#[34]⟩ : ByteArray) ++ (a ++ wrongS k ++ b) ++ ⟨#[34]⟩).size ≤ 1000000000 := by
          rw [ByteArray.size_append, ByteArray.size_append, hz2]
          have : (⟨#[34]⟩ : ByteArray).size = 1 := rfl
          omega
        refine (unq_none _ _ hz3 (wrong_unq k a b HV.out HVB.out)).mono ?_
        rintro e w3 ⟨rfl, b3⟩
        have HZ2 := Lib.hid hz2
        clear hz2 hz3
        go_wp2_with fail
        refine (valid_is _ _ false (wrong_all k a b HV.out HVB.out)).mono ?_
        rintro e w4 ⟨rfl, b4⟩
        go_wp2_with fail
        refine (quote_none _ _ (by rw [HZ2.out]; omega) (wrong_all k a b HV.out HVB.out)).mono ?_
        rintro e w5 ⟨rfl, b5⟩
        go_wp2_with fail
        refine (valid_is _ _ true (by rw [app_list]; exact validD_both _ _ HV.out HVB.out)).mono ?_
        rintro e w6 ⟨rfl, b6⟩
        go_wp2_with fail
        refine (awake_any _).mono ?_
        rintro e w7 ⟨rfl, b7⟩
        go_wp2_with fail
        go_ret
        exact ⟨rfl, below3 (below3 b1 b2 b3) (below3 b4 b5 b6) b7⟩

end Go.Proofs.Ytaafnkhemklpeaa
