/-
  refectorylaw01.RunesAll answers true at every input: the walk.
-/
import Derived.Test.YtaafnkhemklpeaaRef9
import Derived.Test.YtaafnkhemklpeaaBackLaw
namespace Go.Proofs.Ytaafnkhemklpeaa
open Go.RowKit

def pairA : Option (List UInt8) → ByteArray
  | some t => ⟨t.toArray⟩
  | none => ⟨#[]⟩

theorem pair_is {w w' : World} {o : Option (List UInt8)} {e : Ending} (h : PairBelow w o e w') : e = .returned (.tuple #[.string (pairA o), .bool o.isSome]) ∧ Below w.heap.size w w' := by
  cases o with
  | none => exact ⟨h.2, h.1⟩
  | some t => exact ⟨h.2, h.1⟩

theorem all_unq (s : ByteArray) (A : ByteArray) (B : Bool) (hA : pairA (unqP s.data.toList) = A) (hB : (unqP s.data.toList).isSome = B) (hs : s.size ≤ 1500) (w : World) :
    Calls Try.prog 10 #[.string s] w fun e w' => e = .returned (.tuple #[.string A, .bool B]) ∧ Below w.heap.size w w' := by
  subst hA
  subst hB
  exact (unquote_any s w (by omega)).mono fun _ _ h => pair_is h
theorem all_refUnq (s : ByteArray) (A : ByteArray) (B : Bool) (hA : pairA (unqP s.data.toList) = A) (hB : (unqP s.data.toList).isSome = B) (hs : s.size ≤ 1500) (w : World) :
    Calls Try.prog 11 #[.string s] w fun e w' => e = .returned (.tuple #[.string A, .bool B]) ∧ Below w.heap.size w w' := by
  subst hA
  subst hB
  exact (refUnquote_any s w (by omega)).mono fun _ _ h => pair_is h
theorem all_valid (s : ByteArray) (B : Bool) (hB : Lib.validD s.data.toList = B) (w : World) :
    Calls Try.prog 12 #[.string s] w fun e w' => e = .returned (.bool B) ∧ Below w.heap.size w w' := by
  subst hB
  exact valid_any s w
theorem all_refValid (s : ByteArray) (B : Bool) (hB : Lib.validD s.data.toList = B) (hs : s.size ≤ 1500) (w : World) :
    Calls Try.prog 13 #[.string s] w fun e w' => e = .returned (.bool B) ∧ w = w' := by
  subst hB
  exact refValid_any s w (by omega)
theorem all_name (s : ByteArray) (B : Bool) (hB : nameB s.data.toList = B) (hs : s.size ≤ 1500) (w : World) :
    Calls Try.prog 14 #[.string s] w fun e w' => e = .returned (.bool B) ∧ Below w.heap.size w w' := by
  subst hB
  exact name_any s w (by unfold maxLen; omega)
theorem all_refName (s : ByteArray) (B : Bool) (hB : nameB s.data.toList = B) (hs : s.size ≤ 1500) (w : World) :
    Calls Try.prog 15 #[.string s] w fun e w' => e = .returned (.bool B) ∧ w = w' := by
  subst hB
  exact refName_any s w (by omega)
theorem all_quote (s : ByteArray) (Q : ByteArray) (hQ : ⟨(quoteB s.data.toList).toArray⟩ = Q) (hs : s.size ≤ 1500) (w : World) :
    Calls Try.prog 16 #[.string s] w fun e w' => e = .returned (.string Q) ∧ Below w.heap.size w w' := by
  subst hQ
  exact quote_any s w (by omega)
theorem all_refQuote (s : ByteArray) (Q : ByteArray) (hQ : ⟨(quoteB s.data.toList).toArray⟩ = Q) (hs : s.size ≤ 1500) (w : World) :
    Calls Try.prog 17 #[.string s] w fun e w' => e = .returned (.string Q) ∧ Below w.heap.size w w' := by
  subst hQ
  exact refQuote_any s w (by omega)
theorem all_block (s : ByteArray) (Q : ByteArray) (hQ : ⟨(blockB s.data.toList).toArray⟩ = Q) (hs : s.size ≤ 1500) (w : World) :
    Calls Try.prog 18 #[.string s] w fun e w' => e = .returned (.string Q) ∧ Below w.heap.size w w' := by
  subst hQ
  exact block_any s w (by omega)
theorem all_refBlock (s : ByteArray) (Q : ByteArray) (hQ : ⟨(blockB s.data.toList).toArray⟩ = Q) (hs : s.size ≤ 1500) (w : World) :
    Calls Try.prog 19 #[.string s] w fun e w' => e = .returned (.string Q) ∧ Below w.heap.size w w' := by
  subst hQ
  exact refBlock_any s w (by omega)

set_option maxHeartbeats 4000000 in
set_option maxRecDepth 100000 in
theorem runesAll_walk (s : ByteArray) (hs : s.size ≤ 140737488355328) (w : World) :
    Calls Try.prog 3 #[.string s] w (TrueBelow w) := by
  by_cases hbig : 1500 < s.size
  · have hbig' : decide ((1500 : Int) < (s.size : Int)) = true := by simp; omega
    go_enter Try.func3, Try.ntmps3
    go_wp2_with fail
    refine (awake_any _).mono ?_
    rintro e w1 ⟨rfl, b1⟩
    go_wp2_with fail
    go_ret
    exact ⟨rfl, b1⟩
  · have hbig' : decide ((1500 : Int) < (s.size : Int)) = false := by simp; omega
    have h15 : s.size ≤ 1500 := by omega
    obtain ⟨A, hA⟩ : ∃ A, pairA (unqP s.data.toList) = A := ⟨_, rfl⟩
    obtain ⟨O, hO⟩ : ∃ O, (unqP s.data.toList).isSome = O := ⟨_, rfl⟩
    obtain ⟨V, hV⟩ : ∃ V, Lib.validD s.data.toList = V := ⟨_, rfl⟩
    obtain ⟨N, hN⟩ : ∃ N, nameB s.data.toList = N := ⟨_, rfl⟩
    obtain ⟨Q, hQ⟩ : ∃ Q : ByteArray, ⟨(quoteB s.data.toList).toArray⟩ = Q := ⟨_, rfl⟩
    obtain ⟨K, hK⟩ : ∃ K : ByteArray, ⟨(blockB s.data.toList).toArray⟩ = K := ⟨_, rfl⟩
    have HA := Lib.hid hA
    have HO := Lib.hid hO
    have HV := Lib.hid hV
    have HN := Lib.hid hN
    have HQ := Lib.hid hQ
    have HK := Lib.hid hK
    clear hA hO hV hN hQ hK
    go_enter Try.func3, Try.ntmps3
    go_wp2_with fail
    refine (all_unq s A O HA.out HO.out h15 _).mono ?_
    rintro e w1 ⟨rfl, b1⟩
    go_wp2_with fail
    refine (all_refUnq s A O HA.out HO.out h15 _).mono ?_
    rintro e w2 ⟨rfl, b2⟩
    go_wp2_with fail
    refine (all_valid s V HV.out _).mono ?_
    rintro e w3 ⟨rfl, b3⟩
    go_wp2_with fail
    refine (all_refValid s V HV.out h15 _).mono ?_
    rintro e w' ⟨rfl, rfl⟩
    go_wp2_with fail
    refine (all_name s N HN.out h15 _).mono ?_
    rintro e w4 ⟨rfl, b4⟩
    go_wp2_with fail
    refine (all_refName s N HN.out h15 _).mono ?_
    rintro e w' ⟨rfl, rfl⟩
    go_wp2_with fail
    refine (all_quote s Q HQ.out h15 _).mono ?_
    rintro e w5 ⟨rfl, b5⟩
    go_wp2_with fail
    refine (all_refQuote s Q HQ.out h15 _).mono ?_
    rintro e w6 ⟨rfl, b6⟩
    go_wp2_with fail
    refine (all_block s K HK.out h15 _).mono ?_
    rintro e w7 ⟨rfl, b7⟩
    go_wp2_with fail
    refine (all_refBlock s K HK.out h15 _).mono ?_
    rintro e w8 ⟨rfl, b8⟩
    go_wp2_with fail
    refine (awake_any _).mono ?_
    rintro e w9 ⟨rfl, b9⟩
    go_wp2_with fail
    go_ret
    exact ⟨rfl, below3 (below3 (below3 b1 b2 b3) b4 b5) (below3 b6 b7 b8) b9⟩

end Go.Proofs.Ytaafnkhemklpeaa
