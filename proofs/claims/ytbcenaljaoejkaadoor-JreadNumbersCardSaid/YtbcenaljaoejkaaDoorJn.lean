/-
  JreadNumbers: its walk.
-/
import Derived.Test.YtbcenaljaoejkaaDoorJa
namespace Go.Proofs.YtbcenaljaoejkaaDoor
open Go.RowKit

theorem rem_nat' (v n : Int) (hn : 0 < n) : ∃ u : Nat, v % n = (u : Int) ∧ (u : Int) < n := ⟨(v % n).toNat, by have := Int.emod_nonneg v (show n ≠ 0 by omega); omega, by have := Int.emod_lt_of_pos v hn; have := Int.emod_nonneg v (show n ≠ 0 by omega); omega⟩
theorem below_drewN' {B : Nat} {a w : World} (h : Below B a w) (m : Nat) : Below B a (w.drewN m) := ⟨h.os, h.tape, h.output, h.size, h.block⟩

set_option maxHeartbeats 4000000 in
set_option maxRecDepth 100000 in
theorem jn_bad (a b how : Int) (w : World) (ua ub k : Nat) (x y S : ByteArray) (sx : x.size ≤ 6) (sy : y.size ≤ 3) (sS : S.size ≤ 40)
    (HPa : ∀ W, Calls Tryd.prog 13 #[.int .i64 a, .int .i64 1000000] W fun e w' => e = .returned (.int .i64 (ua : Int)) ∧ W = w')
    (HPb : ∀ W, Calls Tryd.prog 13 #[.int .i64 b, .int .i64 1000] W fun e w' => e = .returned (.int .i64 (ub : Int)) ∧ W = w')
    (HPk : ∀ W, Calls Tryd.prog 13 #[.int .i64 how, .int .i64 12] W fun e w' => e = .returned (.int .i64 (k : Int)) ∧ W = w')
    (HDx : ∀ W, Calls Tryd.prog 14 #[.int .i64 ua] W fun e w' => e = .returned (.string x) ∧ ∃ m, w' = W.drewN m)
    (HDy : ∀ W, Calls Tryd.prog 14 #[.int .i64 ub] W fun e w' => e = .returned (.string y) ∧ ∃ m, w' = W.drewN m)
    (hix : ∀ W, (Instr.index 42 (.agg #[.string x, .string (⟨#[45]⟩ ++ x), .string (x ++ ⟨#[46]⟩ ++ y), .string (x ++ ⟨#[101, 45]⟩ ++ y), .string ⟨#[116, 114, 117, 101]⟩, .string ⟨#[110, 117, 108, 108]⟩, .string (x ++ ⟨#[46]⟩), .string (⟨#[48]⟩ ++ x), .string ⟨#[116, 114, 117]⟩, .string ⟨#[110, 117, 108]⟩, .string ⟨#[84, 114, 117, 101]⟩, .string ⟨#[39, 97, 39]⟩]) (.int .i64 k)).run Tryd.prog W = .ok (.string S) W)
    (h5 : decide ((5 : Int) < k) = true) (hread : readP ((⟨#[91]⟩ ++ S) ++ ⟨#[93]⟩ : ByteArray).data.toList = (none, 2)) :
    Calls Tryd.prog 6 #[.int .i64 a, .int .i64 b, .int .i64 how] w (TrueBelow w) := by
  have t1 : (x ++ ⟨#[46]⟩).size ≤ 100 := by rw [ByteArray.size_append]; show _ + 1 ≤ _; omega
  have t2 : (x ++ ⟨#[101, 45]⟩).size ≤ 100 := by rw [ByteArray.size_append]; show _ + 2 ≤ _; omega
  have t3 : ((⟨#[91]⟩ : ByteArray) ++ S).size ≤ 100 := by rw [ByteArray.size_append]; show 1 + _ ≤ _; omega
  have HRD := Lib.hid hread
  clear hread
  go_enter Tryd.func6, Tryd.ntmps6
  go_wp2_with fail
  with_reducible refine (HPa _).mono ?_
  rintro e w' ⟨rfl, rfl⟩
  go_wp2_with fail
  with_reducible refine (HDx _).mono ?_
  rintro e w' ⟨rfl, m1, rfl⟩
  go_wp2_with fail
  with_reducible refine (HPb _).mono ?_
  rintro e w' ⟨rfl, rfl⟩
  go_wp2_with fail
  with_reducible refine (HDy _).mono ?_
  rintro e w' ⟨rfl, m2, rfl⟩
  go_wp2_with fail
  with_reducible refine (HPk _).mono ?_
  rintro e w' ⟨rfl, rfl⟩
  clear HPa HPb HPk HDx HDy
  go_wp2_with fail
  clear hix t1 t2
  generalize hW : World.drewN w _ = W0
  have bW : Below w.heap.size w W0 := by rw [← hW]; exact below_drewN' (Below.refl _ _) _
  clear hW
  refine (read_err HRD.out _).mono ?_
  rintro e w1 ⟨b1, rfl⟩
  have c1 : Below w.heap.size w w1 := bW.trans (b1.mono bW.size)
  have hz1 := c1.size
  clear b1 bW
  go_wp2_with ((go_at_call 7); (with_reducible refine (awake_true _).mono ?_); rintro e w2 ⟨rfl, b2⟩)
  go_ret
  exact ⟨rfl, (c1.alloc hz1 _).trans (b2.mono (by simp; omega))⟩

set_option maxHeartbeats 4000000 in
set_option maxRecDepth 100000 in
theorem jn_ok (a b how : Int) (w : World) (ua ub k : Nat) (x y S : ByteArray) (sx : x.size ≤ 6) (sy : y.size ≤ 3) (sS : S.size ≤ 40)
    (HPa : ∀ W, Calls Tryd.prog 13 #[.int .i64 a, .int .i64 1000000] W fun e w' => e = .returned (.int .i64 (ua : Int)) ∧ W = w')
    (HPb : ∀ W, Calls Tryd.prog 13 #[.int .i64 b, .int .i64 1000] W fun e w' => e = .returned (.int .i64 (ub : Int)) ∧ W = w')
    (HPk : ∀ W, Calls Tryd.prog 13 #[.int .i64 how, .int .i64 12] W fun e w' => e = .returned (.int .i64 (k : Int)) ∧ W = w')
    (HDx : ∀ W, Calls Tryd.prog 14 #[.int .i64 ua] W fun e w' => e = .returned (.string x) ∧ ∃ m, w' = W.drewN m)
    (HDy : ∀ W, Calls Tryd.prog 14 #[.int .i64 ub] W fun e w' => e = .returned (.string y) ∧ ∃ m, w' = W.drewN m)
    (hix : ∀ W, (Instr.index 42 (.agg #[.string x, .string (⟨#[45]⟩ ++ x), .string (x ++ ⟨#[46]⟩ ++ y), .string (x ++ ⟨#[101, 45]⟩ ++ y), .string ⟨#[116, 114, 117, 101]⟩, .string ⟨#[110, 117, 108, 108]⟩, .string (x ++ ⟨#[46]⟩), .string (⟨#[48]⟩ ++ x), .string ⟨#[116, 114, 117]⟩, .string ⟨#[110, 117, 108]⟩, .string ⟨#[84, 114, 117, 101]⟩, .string ⟨#[39, 97, 39]⟩]) (.int .i64 k)).run Tryd.prog W = .ok (.string S) W)
    (kd : Int) (z : ByteArray) (h5 : decide ((5 : Int) < k) = false) (hix2 : ∀ W, (Instr.index 43 (.agg #[.int .i64 3, .int .i64 3, .int .i64 4, .int .i64 4, .int .i64 2, .int .i64 1]) (.int .i64 k)).run Tryd.prog W = .ok (.int .i64 kd) W)
    (five : Bool) (h55 : ((k : Int) == 5) = five) (hz : five = false → z = S) (hread : readP ((⟨#[91]⟩ ++ S) ++ ⟨#[93]⟩ : ByteArray).data.toList = (some (.mk 7 e0 [] [.mk kd z [] []]), 0)) :
    Calls Tryd.prog 6 #[.int .i64 a, .int .i64 b, .int .i64 how] w (TrueBelow w) := by
  have t1 : (x ++ ⟨#[46]⟩).size ≤ 100 := by rw [ByteArray.size_append]; show _ + 1 ≤ _; omega
  have t2 : (x ++ ⟨#[101, 45]⟩).size ≤ 100 := by rw [ByteArray.size_append]; show _ + 2 ≤ _; omega
  have t3 : ((⟨#[91]⟩ : ByteArray) ++ S).size ≤ 100 := by rw [ByteArray.size_append]; show 1 + _ ≤ _; omega
  have HRD := Lib.hid hread
  clear hread
  go_enter Tryd.func6, Tryd.ntmps6
  go_wp2_with fail
  with_reducible refine (HPa _).mono ?_
  rintro e w' ⟨rfl, rfl⟩
  go_wp2_with fail
  with_reducible refine (HDx _).mono ?_
  rintro e w' ⟨rfl, m1, rfl⟩
  go_wp2_with fail
  with_reducible refine (HPb _).mono ?_
  rintro e w' ⟨rfl, rfl⟩
  go_wp2_with fail
  with_reducible refine (HDy _).mono ?_
  rintro e w' ⟨rfl, m2, rfl⟩
  go_wp2_with fail
  with_reducible refine (HPk _).mono ?_
  rintro e w' ⟨rfl, rfl⟩
  clear HPa HPb HPk HDx HDy
  go_wp2_with fail
  clear hix t1 t2
  generalize hW : World.drewN w _ = W0
  have bW : Below w.heap.size w W0 := by rw [← hW]; exact below_drewN' (Below.refl _ _) _
  clear hW
  refine (read_val HRD.out _).mono ?_
  rintro e w1 ⟨b1, v, rfl, hR⟩
  obtain ⟨an, cn, bb, off, cp, rfl, hcp, hD, c1, c2⟩ := rd_one hR
  have c1' : w1.cell? ⟨bb, off, none⟩ = some (.int .i64 kd) := c1
  have c2' : w1.cell? ⟨bb, off + 1, none⟩ = some (.string z) := c2
  have hlt := hD.2
  have bc : Below w.heap.size w w1 := bW.trans (b1.mono bW.size)
  have hz1 := bc.size
  have hkk : (kd != kd) = false := by simp
  clear b1 bW hR c1 c2 hD
  cases five with
  | true =>
    clear hz
    go_wp2_with ((go_at_call 7); (with_reducible refine (awake_true _).mono ?_); rintro e w2 ⟨rfl, b2⟩)
    go_ret
    exact ⟨rfl, (bc.alloc hz1 _).trans (b2.mono (by simp; omega))⟩
  | false =>
    obtain rfl := hz rfl
    have hss : (z.toList == z.toList) = true := by simp
    clear hz
    go_wp2_with ((go_at_call 7); (with_reducible refine (awake_true _).mono ?_); rintro e w2 ⟨rfl, b2⟩)
    go_ret
    exact ⟨rfl, (bc.alloc hz1 _).trans (b2.mono (by simp; omega))⟩

end Go.Proofs.YtbcenaljaoejkaaDoor
