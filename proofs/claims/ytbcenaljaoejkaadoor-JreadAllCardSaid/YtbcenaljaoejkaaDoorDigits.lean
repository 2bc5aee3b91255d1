/-
  What refectoryref08.Digits and refectorylaw00.Digits answer: a number's digits.
-/
import Derived.Test.YtbcenaljaoejkaaDoorPlace
import Derived.Test.YtbcenaljaoejkaaDoorNum
namespace Go.Proofs.YtbcenaljaoejkaaDoor
open Go.RowKit

def dch (d : Nat) : UInt8 := UInt8.ofNat (48 + d)
/-- The digits of a number that has at most f of them. -/
def dgs : Nat → Nat → List UInt8
  | 0, _ => []
  | f + 1, v => if v < 10 then [dch v] else dgs f (v / 10) ++ [dch (v % 10)]

theorem digit_slice (d : Nat) (hd : d < 10) (w : World) : (Instr.slice 9 (.string ⟨#[48, 49, 50, 51, 52, 53, 54, 55, 56, 57]⟩) (some (.int .i64 (d : Int))) (some (.int .i64 ((d : Int) + 1))) none).run Tryd.prog w = .ok (.string ⟨#[dch d]⟩) w := by
  have hz : digitsS.size = 10 := rfl
  rw [run_slice_string_if _ _ _ _ _ _ _ Tryd.underlying9, if_pos (by show _ ∧ _ ≤ (digitsS.size : Int); omega), if_pos (by omega)]
  have e : ((d : Int) + 1).toNat = d + 1 := by omega
  have e0 : ((d : Int)).toNat = d := by omega
  rw [e, e0]
  match d, hd with
  | 0, _ | 1, _ | 2, _ | 3, _ | 4, _ | 5, _ | 6, _ | 7, _ | 8, _ | 9, _ => rfl

theorem app_one (l : List UInt8) (b : UInt8) : (⟨l.toArray⟩ : ByteArray) ++ ⟨#[b]⟩ = ⟨(l ++ [b]).toArray⟩ := by
  rw [← of_list (⟨l.toArray⟩ ++ ⟨#[b]⟩), app_list]

theorem dgs_len : ∀ f v, (dgs f v).length ≤ f
  | 0, _ => Nat.le_refl _
  | f + 1, v => by
    unfold dgs
    split
    · simp
    · have := dgs_len f (v / 10)
      simp; omega

set_option maxHeartbeats 1000000 in
set_option maxRecDepth 100000 in
theorem refDigits_any : ∀ (f v : Nat) (w : World), v < 10 ^ f → 1 ≤ f → f ≤ 15 →
    Calls Tryd.prog 20 #[.int .i64 v] w fun e w' => e = .returned (.string ⟨(dgs f v).toArray⟩) ∧ ∃ m, w' = w.drewN m
  | 0, _, _, _, h, _ => absurd h (by omega)
  | f + 1, v, w, h, _, hf => by
    have hv : v ≤ 1000000000000000 := by
      have : 10 ^ (f + 1) ≤ 10 ^ 15 := Nat.pow_le_pow_right (by omega) hf
      have e : (10 : Nat) ^ 15 = 1000000000000000 := by decide
      omega
    have d1 : decide ((v : Int) ≤ -10) = false := decide_eq_false (by omega)
    have d2 : decide ((v : Int) < 0) = false := decide_eq_false (by omega)
    by_cases h10 : v < 10
    · have HD := Lib.hid (show [dch v] = dgs (f + 1) v by unfold dgs; rw [if_pos h10])
      have d3 : decide ((v : Int) < 10) = true := by simp; omega
      have hsl := digit_slice v h10
      go_enter Tryd.func20, Tryd.ntmps20
      go_wp2_with fail
      go_ret
      exact ⟨by rw [← HD.out]; rfl, 0, rfl⟩
    · have d3 : decide ((v : Int) < 10) = false := by simp; omega
      have HD := Lib.hid (show dgs f (v / 10) ++ [dch (v % 10)] = dgs (f + 1) v by
        show _ = if v < 10 then _ else _
        rw [if_neg h10])
      have hlt : v / 10 < 10 ^ f := by
        rw [Nat.pow_succ] at h
        omega
      have hf1 : 1 ≤ f := by
        rcases Nat.eq_zero_or_pos f with h0 | h0
        · subst h0; simp at hlt; omega
        · exact h0
      have hih := fun W => refDigits_any f (v / 10) W hlt hf1 (by omega)
      have hl := dgs_len f (v / 10)
      have hd10 : v % 10 < 10 := Nat.mod_lt _ (by omega)
      have q1 : (v : Int).tdiv 10 = ((v / 10 : Nat) : Int) := by rw [Int.tdiv_eq_ediv_of_nonneg (by omega)]; omega
      have q2 : (v : Int).tmod 10 = ((v % 10 : Nat) : Int) := by rw [Int.tmod_eq_emod_of_nonneg (by omega)]; omega
      have q3 : (v : Int) / 10 = ((v / 10 : Nat) : Int) := by omega
      have q4 : (v : Int) % 10 = ((v % 10 : Nat) : Int) := by omega
      have hsl := digit_slice (v % 10) hd10
      have HA := Lib.hid (app_one (dgs f (v / 10)) (dch (v % 10)))
      generalize v % 10 = d at *
      generalize v / 10 = u at *
      have w1 : IntKind.i64.wrap ((d : Int) + 1) = (d : Int) + 1 := IntWalk.i64_in _ (by omega)
      have w2 : IntKind.i64.wrap (d : Int) = (d : Int) := IntWalk.i64_in _ (by omega)
      have w3 : IntKind.i64.wrap (u : Int) = (u : Int) := IntWalk.i64_in _ (by omega)
      generalize dgs f u = L at *
      go_enter Tryd.func20, Tryd.ntmps20
      go_wp2_with fail
      go_quiet ((go_at_call 20; exact Calls.quiet_of (hih _)))
      go_wp2_with fail
      go_ret
      exact ⟨by rw [← HD.out, ← HA.out]; rfl, _, rfl⟩

set_option maxHeartbeats 400000 in
theorem lawDigits_any (f v : Nat) (w : World) (h : v < 10 ^ f) (h1 : 1 ≤ f) (h15 : f ≤ 15) :
    Calls Tryd.prog 14 #[.int .i64 v] w fun e w' => e = .returned (.string ⟨(dgs f v).toArray⟩) ∧ ∃ m, w' = w.drewN m := by
  go_enter Tryd.func14, Tryd.ntmps14
  go_wp2_with fail
  refine (refDigits_any f v _ h h1 h15).mono ?_
  rintro e w1 ⟨rfl, m, rfl⟩
  go_wp2_with fail
  go_ret
  exact ⟨rfl, m, rfl⟩

end Go.Proofs.YtbcenaljaoejkaaDoor
