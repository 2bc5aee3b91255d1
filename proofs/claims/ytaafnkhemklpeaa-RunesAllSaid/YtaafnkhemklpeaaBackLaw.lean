/-
  refectorylaw01.RunesBack answers true at every input.
-/
import Derived.Test.YtaafnkhemklpeaaWrong
import Derived.Test.YtaafnkhemklpeaaBack2
namespace Go.Proofs.Ytaafnkhemklpeaa
open Go.RowKit

def quoteS (s : ByteArray) : ByteArray := ⟨(quoteB s.data.toList).toArray⟩

theorem quote_is (s : ByteArray) (w : World) (hs : s.size ≤ 1000000000) :
    Calls Try.prog 16 #[.string s] w fun e w' => e = .returned (.string (quoteS s)) ∧ Below w.heap.size w w' := quote_any s w hs

theorem quoteS_size (s : ByteArray) (hv : Lib.validD s.data.toList = true) : 2 ≤ (quoteS s).size ∧ (quoteS s).size ≤ 6 * s.size + 2 := by
  have e : (quoteS s).size = (quoteB s.data.toList).length := by simp [quoteS, ByteArray.size]
  have q := quoteIn_len s.data.toList
  have z : s.data.toList.length = s.size := rfl
  rw [e]
  unfold quoteB
  rw [if_pos hv]
  simp
  omega
theorem quoteS_list (s : ByteArray) : (quoteS s).data.toList = quoteB s.data.toList := by simp [quoteS]

theorem unq_of_quote (s : ByteArray) (w : World) (hv : Lib.validD s.data.toList = true) (hs : s.size ≤ 10000000) :
    Calls Try.prog 10 #[.string (quoteS s)] w fun e w' => e = .returned (.tuple #[.string s, .bool true]) ∧ Below w.heap.size w w' := by
  have hz := quoteS_size s hv
  refine (unquote_any (quoteS s) w (by omega)).mono ?_
  rintro e w' hp
  rw [quoteS_list, unq_quote _ hv] at hp
  exact ⟨hp.2, hp.1⟩

theorem unq_of_cut (s : ByteArray) (w : World) (hv : Lib.validD s.data.toList = true) (hs : s.size ≤ 10000000) (k : Nat) (hk : k + 2 ≤ (quoteS s).size) :
    Calls Try.prog 10 #[.string ((quoteS s).extract 0 k)] w fun e w' => e = .returned (.tuple #[.string ⟨#[]⟩, .bool false]) ∧ Below w.heap.size w w' := by
  have hz := quoteS_size s hv
  have e : ((quoteS s).extract 0 k).data.toList = (quoteB s.data.toList).take k := by
    rw [Lib.extract_data, quoteS_list]
    simp
  refine unq_none _ w (by simp; omega) ?_
  rw [e]
  refine unq_cut _ hv k ?_
  have : (quoteS s).size = (quoteB s.data.toList).length := by simp [quoteS, ByteArray.size]
  omega

set_option maxHeartbeats 4000000 in
set_option maxRecDepth 100000 in
theorem runesBack_walk (s : ByteArray) (n : Int) (hs : s.size ≤ 140737488355328) (w : World) :
    Calls Try.prog 4 #[.string s, .int .i64 n] w (TrueBelow w) := by
  by_cases hbig : 1000 < s.size
  · have hbig' : decide ((1000 : Int) < (s.size : Int)) = true := by simp; omega
    go_enter Try.func4, Try.ntmps4
    go_wp2_with fail
    refine (awake_any _).mono ?_
    rintro e w1 ⟨rfl, b1⟩
    go_wp2_with fail
    go_ret
    exact ⟨rfl, b1⟩
  · have hbig' : decide ((1000 : Int) < (s.size : Int)) = false := by simp; omega
    cases hv : Lib.validD s.data.toList with
    | false =>
      have HV := Lib.hid hv
      clear hv
      go_enter Try.func4, Try.ntmps4
      go_wp2_with fail
      refine (quote_none _ _ (by omega) HV.out).mono ?_
      rintro e w1 ⟨rfl, b1⟩
      go_wp2_with fail
      refine (valid_is _ _ false HV.out).mono ?_
      rintro e w2 ⟨rfl, b2⟩
      go_wp2_with fail
      refine (awake_any _).mono ?_
      rintro e w3 ⟨rfl, b3⟩
      go_wp2_with fail
      go_ret
      exact ⟨rfl, below3 b1 b2 b3⟩
    | true =>
      have HV := Lib.hid hv
      have hz := quoteS_size s hv
      have hd2 : decide (((quoteS s).size : Int) < 2) = false := by simp; omega
      have k0 := Int.emod_nonneg n (by omega : (((quoteS s).size : Int) - 1) ≠ 0)
      have k1 := Int.emod_lt_of_pos n (by omega : (0 : Int) < ((quoteS s).size : Int) - 1)
      obtain ⟨k, hk⟩ : ∃ k : Nat, n % (((quoteS s).size : Int) - 1) = k := ⟨(n % (((quoteS s).size : Int) - 1)).toNat, by omega⟩
      have hk2 : k + 2 ≤ (quoteS s).size := by omega
      have HK := Lib.hid hk
      clear hk hv k0 k1
      go_enter Try.func4, Try.ntmps4
      go_wp2_with fail
      refine (quote_is _ _ (by omega)).mono ?_
      rintro e w1 ⟨rfl, b1⟩
      go_wp2_with fail
      refine (valid_is _ _ true HV.out).mono ?_
      rintro e w2 ⟨rfl, b2⟩
      go_wp2_with fail
      refine (unq_of_quote s _ HV.out (by omega)).mono ?_
      rintro e w3 ⟨rfl, b3⟩
      go_wp2_with fail
      refine (place_any _ _ _ (by omega) (by omega)).mono ?_
      rintro e w' ⟨rfl, rfl⟩
      rw [HK.out]
      go_wp2_with fail
      refine (unq_of_cut s _ HV.out (by omega) k hk2).mono ?_
      rintro e w4 ⟨rfl, b4⟩
      go_wp2_with fail
      refine (awake_any _).mono ?_
      rintro e w5 ⟨rfl, b5⟩
      go_wp2_with fail
      go_ret
      exact ⟨rfl, below3 (below3 b1 b2 b3) b4 b5⟩

end Go.Proofs.Ytaafnkhemklpeaa
