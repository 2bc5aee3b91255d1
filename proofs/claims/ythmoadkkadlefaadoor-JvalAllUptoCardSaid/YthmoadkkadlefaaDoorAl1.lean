/-
  JvalAll, bounded: what the document's digits answers.
-/
import Derived.Test.YthmoadkkadlefaaDoorNum
import Derived.Test.YthmoadkkadlefaaDoorRef3
namespace Go.Proofs.YthmoadkkadlefaaDoor
open Go.RowKit

def ndL (l : List UInt8) : Nat := (l.takeWhile digU).length
theorem ndL_cons (a : UInt8) (t : List UInt8) : ndL (a :: t) = if digU a = true then ndL t + 1 else 0 := by
  unfold ndL
  rw [List.takeWhile_cons]
  cases digU a <;> simp

set_option maxHeartbeats 1000000 in
theorem refdig_any (s : ByteArray) (i : Nat) (w : World) (hs : s.size ≤ 1000000000) (hi : i ≤ s.size) :
    Calls Tryd.prog 26 #[.string s, .int .i64 i] w fun e w' => e = .returned (.int .i64 (ndL (s.data.toList.drop i))) ∧ w = w' := by
  have hlen : s.data.toList.length = s.size := rfl
  go_enter Tryd.func26, Tryd.ntmps26
  go_wp2_with fail
  go_loop [5] (fun v => ∃ n : Nat, i + n ≤ s.size ∧ v = .int .i64 n ∧ Hid (ndL (s.data.toList.drop i) = n + ndL (s.data.toList.drop (i + n)))) (fun v => s.size - (i + (intOf v).toNat))
  case atStart => exact ⟨0, by omega, rfl, Lib.hid (by simp)⟩
  case round =>
    obtain ⟨n, hn, rfl, HV⟩ := hrel
    by_cases hlt : i + n < s.size
    · have hc : s.data.toList.drop (i + n) = s.data.toList[i + n] :: s.data.toList.drop (i + n + 1) := List.drop_eq_getElem_cons (by omega)
      have d1 : decide ((i : Int) + n < s.size) = true := by simp; omega
      have hg : s.data.toList[i + n] = s[i + n] := rfl
      have hdg : ∀ W, Calls Tryd.prog 40 #[.int .u8 (s[i + n].toNat : Int)] W fun e w' => e = .returned (.bool (digU s[i + n])) ∧ W = w' := fun W => refDigit_any _ W
      rw [hg] at hc
      have HC := Lib.hid hc
      clear hc hg
      cases hd : digU s[i + n] with
      | true =>
        rw [hd] at hdg
        have HD := Lib.hid hd
        clear hd
        go_wp2_with ((go_at_call 40); (with_reducible refine (hdg _).mono ?_); rintro e w' ⟨rfl, rfl⟩)
        go_round
        case rel => exact ⟨n + 1, by omega, by go_num, Lib.hid (by rw [HV.out, HC.out, ndL_cons, if_pos HD.out, Nat.add_assoc i n 1]; omega)⟩
        case measure => simp [intOf]; omega
      | false =>
        rw [hd] at hdg
        have HD := Lib.hid hd
        clear hd
        go_wp2_with ((go_at_call 40); (with_reducible refine (hdg _).mono ?_); rintro e w' ⟨rfl, rfl⟩)
        go_ret
        exact ⟨by rw [HV.out, HC.out, ndL_cons, if_neg (by rw [HD.out]; decide)]; simp, rfl⟩
    · have d1 : decide ((i : Int) + n < s.size) = false := by simp; omega
      go_wp2_with fail
      go_ret
      exact ⟨by rw [HV.out, List.drop_eq_nil_of_le (by omega)]; simp [ndL], rfl⟩

end Go.Proofs.YthmoadkkadlefaaDoor
