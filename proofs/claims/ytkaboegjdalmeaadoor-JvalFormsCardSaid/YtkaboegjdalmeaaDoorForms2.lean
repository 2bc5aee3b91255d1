/-
  refectorylaw02.JvalForms: the walk.
-/
import Derived.Test.YtkaboegjdalmeaaDoorForms
namespace Go.Proofs.YtkaboegjdalmeaaDoor
open Go.RowKit

theorem rem_nat (v : Int) (n : Nat) (hn : 0 < n) : ∃ u : Nat, v % (n : Int) = (u : Int) ∧ u < n := by
  have h1 := Int.emod_nonneg v (by omega : (n : Int) ≠ 0)
  have h2 := Int.emod_lt_of_pos v (by omega : 0 < (n : Int))
  exact ⟨(v % (n : Int)).toNat, by omega, by omega⟩

def FormsRel (w : World) (g : Nat) (cs : Array Value) (i : Value) (wr : World) : Prop :=
  ∃ k : Nat, k ≤ 12 ∧ i = .int .i64 k ∧ Below w.heap.size w wr ∧ wr.heap[g]? = some (.cells cs 9 (0, 0))

set_option maxHeartbeats 4000000 in
set_option maxRecDepth 100000 in
theorem jvalForms_pos (a b c : Int) (w : World) : Calls Tryd.prog 6 #[.int .i64 a, .int .i64 b, .int .i64 c, .bool false] w (TrueBelow w) := by
  obtain ⟨ua, ea, la⟩ := rem_nat a 1000000 (by omega)
  obtain ⟨ub, eb, lb⟩ := rem_nat b 1000000 (by omega)
  obtain ⟨uc, ec, lc⟩ := rem_nat c 1000 (by omega)
  have HP1 : ∀ W, Calls Tryd.prog 20 #[.int .i64 a, .int .i64 1000000] W fun e w' => e = .returned (.int .i64 (ua : Int)) ∧ W = w' := fun W => by have := place_any a 1000000 W (by omega) (by omega); rw [show a % 1000000 = (ua : Int) from ea] at this; exact this
  have HP2 : ∀ W, Calls Tryd.prog 20 #[.int .i64 b, .int .i64 1000000] W fun e w' => e = .returned (.int .i64 (ub : Int)) ∧ W = w' := fun W => by have := place_any b 1000000 W (by omega) (by omega); rw [show b % 1000000 = (ub : Int) from eb] at this; exact this
  have HP3 : ∀ W, Calls Tryd.prog 20 #[.int .i64 c, .int .i64 1000] W fun e w' => e = .returned (.int .i64 (uc : Int)) ∧ W = w' := fun W => by have := place_any c 1000 W (by omega) (by omega); rw [show c % 1000 = (uc : Int) from ec] at this; exact this
  have hD1 := fun W => lawDigits_any 6 ua W (by omega) (by omega) (by omega)
  have hD2 := fun W => lawDigits_any 6 ub W (by omega) (by omega) (by omega)
  have hD3 := fun W => lawDigits_any 3 uc W (by omega) (by omega) (by omega)
  have nX := dgs_nat 6 ua (by omega) (by omega)
  have nY := dgs_nat 6 ub (by omega) (by omega)
  have nZ := dgs_nat 3 uc (by omega) (by omega)
  have sX := dgs_len 6 ua
  have sY := dgs_len 6 ub
  have sZ := dgs_len 3 uc
  clear ea eb ec la lb lc
  have OK : FormsOk ⟨(dgs 6 ua).toArray⟩ ⟨(dgs 6 ub).toArray⟩ ⟨(dgs 3 uc).toArray⟩ := forms_ok _ _ _ [] (dgs 6 ua) (.inl rfl) nX rfl nY nZ sX sY sZ
  clear nX nY nZ sX sY sZ
  generalize (⟨(dgs 6 ua).toArray⟩ : ByteArray) = X at *
  generalize (⟨(dgs 6 ub).toArray⟩ : ByteArray) = Y at *
  generalize (⟨(dgs 3 uc).toArray⟩ : ByteArray) = Z at *
  go_enter Tryd.func6, Tryd.ntmps6
  go_wp2_with fail
  with_reducible refine (HP1 _).mono ?_
  rintro e w' ⟨rfl, rfl⟩
  go_wp2_with fail
  with_reducible refine (hD1 _).mono ?_
  rintro e w' ⟨rfl, m1, rfl⟩
  go_wp2_with fail
  with_reducible refine (HP2 _).mono ?_
  rintro e w' ⟨rfl, rfl⟩
  go_wp2_with fail
  with_reducible refine (hD2 _).mono ?_
  rintro e w' ⟨rfl, m2, rfl⟩
  go_wp2_with fail
  with_reducible refine (HP3 _).mono ?_
  rintro e w' ⟨rfl, rfl⟩
  go_wp2_with fail
  with_reducible refine (hD3 _).mono ?_
  rintro e w' ⟨rfl, m3, rfl⟩
  clear HP1 HP2 HP3 hD1 hD2 hD3
  go_wp2_with fail
  have s1 := OK.sx
  have s2 := OK.sy
  have s3 := OK.sz
  have t1 : (X ++ ⟨#[46]⟩).size ≤ 100 := by rw [ByteArray.size_append]; show _ + 1 ≤ _; omega
  have t2 : (X ++ ⟨#[46]⟩ ++ Y).size ≤ 200 := by rw [ByteArray.size_append]; omega
  have t3 : (X ++ ⟨#[101]⟩).size ≤ 100 := by rw [ByteArray.size_append]; show _ + 1 ≤ _; omega
  have t4 : (X ++ ⟨#[101]⟩ ++ Z).size ≤ 200 := by rw [ByteArray.size_append]; omega
  have t5 : (X ++ ⟨#[46]⟩ ++ Y ++ ⟨#[69, 45]⟩).size ≤ 300 := by rw [ByteArray.size_append]; show _ + 2 ≤ _; omega
  have t6 : (X ++ ⟨#[46]⟩ ++ Y ++ ⟨#[46]⟩).size ≤ 300 := by rw [ByteArray.size_append]; show _ + 1 ≤ _; omega
  have t7 : (X ++ ⟨#[101]⟩ ++ Z ++ ⟨#[101]⟩).size ≤ 300 := by rw [ByteArray.size_append]; show _ + 1 ≤ _; omega
  generalize hW : World.drewN w _ = W0
  have bW : Below w.heap.size w W0 := by rw [← hW]; exact below_drewN (Below.refl _ _) _
  clear hW
  with_reducible refine (number_is X _ true true OK.x1.2 OK.x1.1).mono ?_
  rintro e w1 ⟨rfl, b1⟩
  go_wp2_with fail
  with_reducible refine (number_is (X ++ ⟨#[46]⟩ ++ Y) _ false true OK.x2.2 OK.x2.1).mono ?_
  rintro e w2 ⟨rfl, b2⟩
  go_wp2_with fail
  with_reducible refine (number_is (X ++ ⟨#[101]⟩ ++ Z) _ false true OK.x3.2 OK.x3.1).mono ?_
  rintro e w3 ⟨rfl, b3⟩
  go_wp2_with fail
  with_reducible refine (number_is (X ++ ⟨#[46]⟩ ++ Y ++ ⟨#[69, 45]⟩ ++ Z) _ false true OK.x4.2 OK.x4.1).mono ?_
  rintro e w4 ⟨rfl, b4⟩
  have c1 : Below w.heap.size w w1 := bW.trans (b1.mono bW.size)
  have c2 : Below w.heap.size w w2 := c1.trans (b2.mono c1.size)
  have c3 : Below w.heap.size w w3 := c2.trans (b3.mono c2.size)
  have c4 : Below w.heap.size w w4 := c3.trans (b4.mono c3.size)
  clear b1 b2 b3 b4 c1 c2 c3 bW
  have hz4 := c4.size
  go_wp2_with fail
  go_loopw [133] (fun i wr => FormsRel w w4.heap.size #[.string (X ++ ⟨#[46]⟩), .string (X ++ ⟨#[101]⟩), .string (X ++ ⟨#[101, 43]⟩), .string (⟨#[46]⟩ ++ Y), .string (⟨#[48]⟩ ++ Y), .string (⟨#[43]⟩ ++ X), .string (X ++ ⟨#[32]⟩), .string (⟨#[32]⟩ ++ X), .string (⟨#[45, 45]⟩ ++ X), .string (X ++ ⟨#[46]⟩ ++ Y ++ ⟨#[46]⟩ ++ Z), .string (X ++ ⟨#[101]⟩ ++ Z ++ ⟨#[101]⟩ ++ Z), .string (X ++ ⟨#[120]⟩)] i wr) (fun i _ => 12 - (intOf i).toNat)
  case atStart => exact ⟨0, by omega, rfl, c4.alloc hz4 _, heap_alloc_new _ _⟩
  case round =>
    obtain ⟨k, hk, rfl, hbw, hblk⟩ := hrel
    by_cases hlt : k < 12
    · obtain ⟨S, hcell, hno⟩ : ∃ S, wr.cell? ⟨w4.heap.size, k, none⟩ = some (.string S) ∧ numOk (vbl S) = false := by
        have hc := Lib.cell_of_heap hblk k
        match k, hlt with
        | 0, _ => exact ⟨_, hc, OK.a⟩
        | 1, _ => exact ⟨_, hc, OK.b⟩
        | 2, _ => exact ⟨_, hc, OK.c⟩
        | 3, _ => exact ⟨_, hc, OK.d⟩
        | 4, _ => exact ⟨_, hc, OK.e⟩
        | 5, _ => exact ⟨_, hc, OK.f⟩
        | 6, _ => exact ⟨_, hc, OK.g⟩
        | 7, _ => exact ⟨_, hc, OK.h⟩
        | 8, _ => exact ⟨_, hc, OK.i⟩
        | 9, _ => exact ⟨_, hc, OK.j⟩
        | 10, _ => exact ⟨_, hc, OK.k⟩
        | 11, _ => exact ⟨_, hc, OK.l⟩
      have HB := Lib.hid hblk
      have hnc := fun W => number_no S W hno
      clear hblk hno OK
      go_wp2_with fail
      with_reducible refine (hnc _).mono ?_
      rintro e w5 ⟨rfl, b5⟩
      go_wp2_with fail
      go_roundw
      case rel => exact ⟨k + 1, by omega, by go_num, hbw.trans (b5.mono hbw.size), (b5.block _ (heap_lt HB.out)).trans HB.out⟩
      case measure => simp [intOf]; omega
    · go_wp2_with fail
      with_reducible refine (number_no (⟨#[48]⟩ ++ Y) _ OK.e).mono ?_
      rintro e w6 ⟨rfl, b6⟩
      go_wp2_with fail
      with_reducible refine (awake_true _).mono ?_
      rintro e w7 ⟨rfl, b7⟩
      go_wp2_with fail
      go_ret
      have d6 := hbw.trans (b6.mono hbw.size)
      exact ⟨rfl, d6.trans (b7.mono d6.size)⟩

set_option maxHeartbeats 4000000 in
set_option maxRecDepth 100000 in
theorem jvalForms_neg (a b c : Int) (w : World) : Calls Tryd.prog 6 #[.int .i64 a, .int .i64 b, .int .i64 c, .bool true] w (TrueBelow w) := by
  obtain ⟨ua, ea, la⟩ := rem_nat a 1000000 (by omega)
  obtain ⟨ub, eb, lb⟩ := rem_nat b 1000000 (by omega)
  obtain ⟨uc, ec, lc⟩ := rem_nat c 1000 (by omega)
  have HP1 : ∀ W, Calls Tryd.prog 20 #[.int .i64 a, .int .i64 1000000] W fun e w' => e = .returned (.int .i64 (ua : Int)) ∧ W = w' := fun W => by have := place_any a 1000000 W (by omega) (by omega); rw [show a % 1000000 = (ua : Int) from ea] at this; exact this
  have HP2 : ∀ W, Calls Tryd.prog 20 #[.int .i64 b, .int .i64 1000000] W fun e w' => e = .returned (.int .i64 (ub : Int)) ∧ W = w' := fun W => by have := place_any b 1000000 W (by omega) (by omega); rw [show b % 1000000 = (ub : Int) from eb] at this; exact this
  have HP3 : ∀ W, Calls Tryd.prog 20 #[.int .i64 c, .int .i64 1000] W fun e w' => e = .returned (.int .i64 (uc : Int)) ∧ W = w' := fun W => by have := place_any c 1000 W (by omega) (by omega); rw [show c % 1000 = (uc : Int) from ec] at this; exact this
  have hD1 := fun W => lawDigits_any 6 ua W (by omega) (by omega) (by omega)
  have hD2 := fun W => lawDigits_any 6 ub W (by omega) (by omega) (by omega)
  have hD3 := fun W => lawDigits_any 3 uc W (by omega) (by omega) (by omega)
  have nX := dgs_nat 6 ua (by omega) (by omega)
  have nY := dgs_nat 6 ub (by omega) (by omega)
  have nZ := dgs_nat 3 uc (by omega) (by omega)
  have sX := dgs_len 6 ua
  have sY := dgs_len 6 ub
  have sZ := dgs_len 3 uc
  clear ea eb ec la lb lc
  have OK : FormsOk (⟨#[45]⟩ ++ ⟨(dgs 6 ua).toArray⟩) ⟨(dgs 6 ub).toArray⟩ ⟨(dgs 3 uc).toArray⟩ := forms_ok _ _ _ [45] (dgs 6 ua) (.inr rfl) nX (by rw [vbl_app]; rfl) nY nZ sX sY sZ
  have s0 : (⟨(dgs 6 ua).toArray⟩ : ByteArray).size ≤ 6 := sX
  clear nX nY nZ sX sY sZ
  generalize (⟨(dgs 6 ua).toArray⟩ : ByteArray) = X0 at *
  generalize (⟨(dgs 6 ub).toArray⟩ : ByteArray) = Y at *
  generalize (⟨(dgs 3 uc).toArray⟩ : ByteArray) = Z at *
  go_enter Tryd.func6, Tryd.ntmps6
  go_wp2_with fail
  with_reducible refine (HP1 _).mono ?_
  rintro e w' ⟨rfl, rfl⟩
  go_wp2_with fail
  with_reducible refine (hD1 _).mono ?_
  rintro e w' ⟨rfl, m1, rfl⟩
  go_wp2_with fail
  with_reducible refine (HP2 _).mono ?_
  rintro e w' ⟨rfl, rfl⟩
  go_wp2_with fail
  with_reducible refine (hD2 _).mono ?_
  rintro e w' ⟨rfl, m2, rfl⟩
  go_wp2_with fail
  with_reducible refine (HP3 _).mono ?_
  rintro e w' ⟨rfl, rfl⟩
  go_wp2_with fail
  with_reducible refine (hD3 _).mono ?_
  rintro e w' ⟨rfl, m3, rfl⟩
  clear HP1 HP2 HP3 hD1 hD2 hD3
  go_wp2_with fail
  generalize ((⟨#[45]⟩ : ByteArray) ++ X0) = X at *
  have s1 := OK.sx
  have s2 := OK.sy
  have s3 := OK.sz
  have t1 : (X ++ ⟨#[46]⟩).size ≤ 100 := by rw [ByteArray.size_append]; show _ + 1 ≤ _; omega
  have t2 : (X ++ ⟨#[46]⟩ ++ Y).size ≤ 200 := by rw [ByteArray.size_append]; omega
  have t3 : (X ++ ⟨#[101]⟩).size ≤ 100 := by rw [ByteArray.size_append]; show _ + 1 ≤ _; omega
  have t4 : (X ++ ⟨#[101]⟩ ++ Z).size ≤ 200 := by rw [ByteArray.size_append]; omega
  have t5 : (X ++ ⟨#[46]⟩ ++ Y ++ ⟨#[69, 45]⟩).size ≤ 300 := by rw [ByteArray.size_append]; show _ + 2 ≤ _; omega
  have t6 : (X ++ ⟨#[46]⟩ ++ Y ++ ⟨#[46]⟩).size ≤ 300 := by rw [ByteArray.size_append]; show _ + 1 ≤ _; omega
  have t7 : (X ++ ⟨#[101]⟩ ++ Z ++ ⟨#[101]⟩).size ≤ 300 := by rw [ByteArray.size_append]; show _ + 1 ≤ _; omega
  generalize hW : World.drewN w _ = W0
  have bW : Below w.heap.size w W0 := by rw [← hW]; exact below_drewN (Below.refl _ _) _
  clear hW
  with_reducible refine (number_is X _ true true OK.x1.2 OK.x1.1).mono ?_
  rintro e w1 ⟨rfl, b1⟩
  go_wp2_with fail
  with_reducible refine (number_is (X ++ ⟨#[46]⟩ ++ Y) _ false true OK.x2.2 OK.x2.1).mono ?_
  rintro e w2 ⟨rfl, b2⟩
  go_wp2_with fail
  with_reducible refine (number_is (X ++ ⟨#[101]⟩ ++ Z) _ false true OK.x3.2 OK.x3.1).mono ?_
  rintro e w3 ⟨rfl, b3⟩
  go_wp2_with fail
  with_reducible refine (number_is (X ++ ⟨#[46]⟩ ++ Y ++ ⟨#[69, 45]⟩ ++ Z) _ false true OK.x4.2 OK.x4.1).mono ?_
  rintro e w4 ⟨rfl, b4⟩
  have c1 : Below w.heap.size w w1 := bW.trans (b1.mono bW.size)
  have c2 : Below w.heap.size w w2 := c1.trans (b2.mono c1.size)
  have c3 : Below w.heap.size w w3 := c2.trans (b3.mono c2.size)
  have c4 : Below w.heap.size w w4 := c3.trans (b4.mono c3.size)
  clear b1 b2 b3 b4 c1 c2 c3 bW
  have hz4 := c4.size
  go_wp2_with fail
  go_loopw [133] (fun i wr => FormsRel w w4.heap.size #[.string (X ++ ⟨#[46]⟩), .string (X ++ ⟨#[101]⟩), .string (X ++ ⟨#[101, 43]⟩), .string (⟨#[46]⟩ ++ Y), .string (⟨#[48]⟩ ++ Y), .string (⟨#[43]⟩ ++ X), .string (X ++ ⟨#[32]⟩), .string (⟨#[32]⟩ ++ X), .string (⟨#[45, 45]⟩ ++ X), .string (X ++ ⟨#[46]⟩ ++ Y ++ ⟨#[46]⟩ ++ Z), .string (X ++ ⟨#[101]⟩ ++ Z ++ ⟨#[101]⟩ ++ Z), .string (X ++ ⟨#[120]⟩)] i wr) (fun i _ => 12 - (intOf i).toNat)
  case atStart => exact ⟨0, by omega, rfl, c4.alloc hz4 _, heap_alloc_new _ _⟩
  case round =>
    obtain ⟨k, hk, rfl, hbw, hblk⟩ := hrel
    by_cases hlt : k < 12
    · obtain ⟨S, hcell, hno⟩ : ∃ S, wr.cell? ⟨w4.heap.size, k, none⟩ = some (.string S) ∧ numOk (vbl S) = false := by
        have hc := Lib.cell_of_heap hblk k
        match k, hlt with
        | 0, _ => exact ⟨_, hc, OK.a⟩
        | 1, _ => exact ⟨_, hc, OK.b⟩
        | 2, _ => exact ⟨_, hc, OK.c⟩
        | 3, _ => exact ⟨_, hc, OK.d⟩
        | 4, _ => exact ⟨_, hc, OK.e⟩
        | 5, _ => exact ⟨_, hc, OK.f⟩
        | 6, _ => exact ⟨_, hc, OK.g⟩
        | 7, _ => exact ⟨_, hc, OK.h⟩
        | 8, _ => exact ⟨_, hc, OK.i⟩
        | 9, _ => exact ⟨_, hc, OK.j⟩
        | 10, _ => exact ⟨_, hc, OK.k⟩
        | 11, _ => exact ⟨_, hc, OK.l⟩
      have HB := Lib.hid hblk
      have hnc := fun W => number_no S W hno
      clear hblk hno OK
      go_wp2_with fail
      with_reducible refine (hnc _).mono ?_
      rintro e w5 ⟨rfl, b5⟩
      go_wp2_with fail
      go_roundw
      case rel => exact ⟨k + 1, by omega, by go_num, hbw.trans (b5.mono hbw.size), (b5.block _ (heap_lt HB.out)).trans HB.out⟩
      case measure => simp [intOf]; omega
    · go_wp2_with fail
      with_reducible refine (number_no (⟨#[48]⟩ ++ Y) _ OK.e).mono ?_
      rintro e w6 ⟨rfl, b6⟩
      go_wp2_with fail
      with_reducible refine (awake_true _).mono ?_
      rintro e w7 ⟨rfl, b7⟩
      go_wp2_with fail
      go_ret
      have d6 := hbw.trans (b6.mono hbw.size)
      exact ⟨rfl, d6.trans (b7.mono d6.size)⟩

theorem jvalForms_walk (a b c : Int) (neg : Bool) (w : World) : Calls Tryd.prog 6 #[.int .i64 a, .int .i64 b, .int .i64 c, .bool neg] w (TrueBelow w) := by
  cases neg
  · exact jvalForms_pos a b c w
  · exact jvalForms_neg a b c w

end Go.Proofs.YtkaboegjdalmeaaDoor
