/-
  LexWrong: its walk.
-/
import Derived.Test.YtakmkhkbeabgcaaDoorLx7
namespace Go.Proofs.YtakmkhkbeabgcaaDoor
open Go.RowKit

def repA : Nat → List UInt8
  | 0 => []
  | k + 1 => 97 :: 44 :: repA k
theorem repA_len (k : Nat) : (repA k).length = 2 * k := by
  induction k with
  | zero => rfl
  | succ k ih => simp only [repA, List.length_cons, ih]; omega
theorem repA_snoc (k : Nat) : repA (k + 1) = repA k ++ [97, 44] := by
  induction k with
  | zero => rfl
  | succ k ih =>
    show 97 :: 44 :: repA (k + 1) = 97 :: 44 :: (repA k ++ [97, 44])
    rw [ih]
theorem lxG_repA (k : Nat) : ∀ (a : Nat) (r : List UInt8) (acc : List Tk), ∃ acc', lxG a (repA k ++ r) acc = lxG (a + 2 * k) r acc' := by
  induction k with
  | zero => exact fun a r acc => ⟨acc, rfl⟩
  | succ k ih =>
    intro a r acc
    obtain ⟨acc', h⟩ := ih (a + 2) r (acc ++ [⟨1, [97], a⟩])
    refine ⟨acc', ?_⟩
    show lxG a (97 :: 44 :: (repA k ++ r)) acc = _
    rw [lxG_some a 97 _ acc (by decide) (by decide) (word_a 97 (44 :: (repA k ++ r)) (by decide) (fun c hc => by simp at hc; subst hc; decide))]
    show lxG (a + 1) (44 :: (repA k ++ r)) _ = _
    rw [lxG_blank _ _ _ _ (by decide), h]
    congr 1
    omega

theorem wrong_at {x : List UInt8} {b : UInt8} {r : List UInt8} (hx : x = b :: r) (h1 : lxBlank b = false) (h2 : (b == 35) = false) (h3 : lxWord (x ++ [32, 98]) = none) (hl : x.length ≤ 50) (k : Nat) (hk : k ≤ 40) : lexP (repA k ++ x ++ [32, 98]) = ([], 2 * k, 2) := by
  rw [lexP_G _ (by simp only [List.length_append, repA_len, List.length_cons, List.length_nil]; omega), List.append_assoc]
  obtain ⟨acc, h⟩ := lxG_repA k 0 (x ++ [32, 98]) []
  rw [h, Nat.zero_add]
  subst hx
  exact lxG_none _ _ _ _ h1 h2 h3

theorem lw_ix0 (W : World) : (Instr.index 41 (.agg #[.string ⟨#[37]⟩, .string ⟨#[49, 97]⟩, .string ⟨#[48, 49]⟩, .string ⟨#[45]⟩, .string ⟨#[34]⟩, .string ⟨#[34, 92, 113, 34]⟩, .string ⟨#[34, 34, 34]⟩, .string ⟨#[46, 46]⟩, .string ⟨#[116, 104, 105, 115, 95, 110, 97, 109, 101, 95, 105, 115, 95, 108, 111, 110, 103, 101, 114, 95, 116, 104, 97, 110, 95, 97, 110, 121, 95, 110, 97, 109, 101, 95, 109, 97, 121, 95, 98, 101, 95, 120]⟩, .string ⟨#[1]⟩]) (.int .i64 ((0 : Nat) : Int))).run Tryd.prog W = .ok (.string ⟨#[37]⟩) W := by kernel_rfl
theorem lw_no0 : lxWord ([37] ++ [32, 98]) = none := by kernel_rfl
theorem lw_ix1 (W : World) : (Instr.index 41 (.agg #[.string ⟨#[37]⟩, .string ⟨#[49, 97]⟩, .string ⟨#[48, 49]⟩, .string ⟨#[45]⟩, .string ⟨#[34]⟩, .string ⟨#[34, 92, 113, 34]⟩, .string ⟨#[34, 34, 34]⟩, .string ⟨#[46, 46]⟩, .string ⟨#[116, 104, 105, 115, 95, 110, 97, 109, 101, 95, 105, 115, 95, 108, 111, 110, 103, 101, 114, 95, 116, 104, 97, 110, 95, 97, 110, 121, 95, 110, 97, 109, 101, 95, 109, 97, 121, 95, 98, 101, 95, 120]⟩, .string ⟨#[1]⟩]) (.int .i64 ((1 : Nat) : Int))).run Tryd.prog W = .ok (.string ⟨#[49, 97]⟩) W := by kernel_rfl
theorem lw_no1 : lxWord ([49, 97] ++ [32, 98]) = none := by kernel_rfl
theorem lw_ix2 (W : World) : (Instr.index 41 (.agg #[.string ⟨#[37]⟩, .string ⟨#[49, 97]⟩, .string ⟨#[48, 49]⟩, .string ⟨#[45]⟩, .string ⟨#[34]⟩, .string ⟨#[34, 92, 113, 34]⟩, .string ⟨#[34, 34, 34]⟩, .string ⟨#[46, 46]⟩, .string ⟨#[116, 104, 105, 115, 95, 110, 97, 109, 101, 95, 105, 115, 95, 108, 111, 110, 103, 101, 114, 95, 116, 104, 97, 110, 95, 97, 110, 121, 95, 110, 97, 109, 101, 95, 109, 97, 121, 95, 98, 101, 95, 120]⟩, .string ⟨#[1]⟩]) (.int .i64 ((2 : Nat) : Int))).run Tryd.prog W = .ok (.string ⟨#[48, 49]⟩) W := by kernel_rfl
theorem lw_no2 : lxWord ([48, 49] ++ [32, 98]) = none := by kernel_rfl
theorem lw_ix3 (W : World) : (Instr.index 41 (.agg #[.string ⟨#[37]⟩, .string ⟨#[49, 97]⟩, .string ⟨#[48, 49]⟩, .string ⟨#[45]⟩, .string ⟨#[34]⟩, .string ⟨#[34, 92, 113, 34]⟩, .string ⟨#[34, 34, 34]⟩, .string ⟨#[46, 46]⟩, .string ⟨#[116, 104, 105, 115, 95, 110, 97, 109, 101, 95, 105, 115, 95, 108, 111, 110, 103, 101, 114, 95, 116, 104, 97, 110, 95, 97, 110, 121, 95, 110, 97, 109, 101, 95, 109, 97, 121, 95, 98, 101, 95, 120]⟩, .string ⟨#[1]⟩]) (.int .i64 ((3 : Nat) : Int))).run Tryd.prog W = .ok (.string ⟨#[45]⟩) W := by kernel_rfl
theorem lw_no3 : lxWord ([45] ++ [32, 98]) = none := by kernel_rfl
theorem lw_ix4 (W : World) : (Instr.index 41 (.agg #[.string ⟨#[37]⟩, .string ⟨#[49, 97]⟩, .string ⟨#[48, 49]⟩, .string ⟨#[45]⟩, .string ⟨#[34]⟩, .string ⟨#[34, 92, 113, 34]⟩, .string ⟨#[34, 34, 34]⟩, .string ⟨#[46, 46]⟩, .string ⟨#[116, 104, 105, 115, 95, 110, 97, 109, 101, 95, 105, 115, 95, 108, 111, 110, 103, 101, 114, 95, 116, 104, 97, 110, 95, 97, 110, 121, 95, 110, 97, 109, 101, 95, 109, 97, 121, 95, 98, 101, 95, 120]⟩, .string ⟨#[1]⟩]) (.int .i64 ((4 : Nat) : Int))).run Tryd.prog W = .ok (.string ⟨#[34]⟩) W := by kernel_rfl
theorem lw_no4 : lxWord ([34] ++ [32, 98]) = none := by kernel_rfl
theorem lw_ix5 (W : World) : (Instr.index 41 (.agg #[.string ⟨#[37]⟩, .string ⟨#[49, 97]⟩, .string ⟨#[48, 49]⟩, .string ⟨#[45]⟩, .string ⟨#[34]⟩, .string ⟨#[34, 92, 113, 34]⟩, .string ⟨#[34, 34, 34]⟩, .string ⟨#[46, 46]⟩, .string ⟨#[116, 104, 105, 115, 95, 110, 97, 109, 101, 95, 105, 115, 95, 108, 111, 110, 103, 101, 114, 95, 116, 104, 97, 110, 95, 97, 110, 121, 95, 110, 97, 109, 101, 95, 109, 97, 121, 95, 98, 101, 95, 120]⟩, .string ⟨#[1]⟩]) (.int .i64 ((5 : Nat) : Int))).run Tryd.prog W = .ok (.string ⟨#[34, 92, 113, 34]⟩) W := by kernel_rfl
theorem lw_no5 : lxWord ([34, 92, 113, 34] ++ [32, 98]) = none := by kernel_rfl
theorem lw_ix6 (W : World) : (Instr.index 41 (.agg #[.string ⟨#[37]⟩, .string ⟨#[49, 97]⟩, .string ⟨#[48, 49]⟩, .string ⟨#[45]⟩, .string ⟨#[34]⟩, .string ⟨#[34, 92, 113, 34]⟩, .string ⟨#[34, 34, 34]⟩, .string ⟨#[46, 46]⟩, .string ⟨#[116, 104, 105, 115, 95, 110, 97, 109, 101, 95, 105, 115, 95, 108, 111, 110, 103, 101, 114, 95, 116, 104, 97, 110, 95, 97, 110, 121, 95, 110, 97, 109, 101, 95, 109, 97, 121, 95, 98, 101, 95, 120]⟩, .string ⟨#[1]⟩]) (.int .i64 ((6 : Nat) : Int))).run Tryd.prog W = .ok (.string ⟨#[34, 34, 34]⟩) W := by kernel_rfl
theorem lw_no6 : lxWord ([34, 34, 34] ++ [32, 98]) = none := by kernel_rfl
theorem lw_ix7 (W : World) : (Instr.index 41 (.agg #[.string ⟨#[37]⟩, .string ⟨#[49, 97]⟩, .string ⟨#[48, 49]⟩, .string ⟨#[45]⟩, .string ⟨#[34]⟩, .string ⟨#[34, 92, 113, 34]⟩, .string ⟨#[34, 34, 34]⟩, .string ⟨#[46, 46]⟩, .string ⟨#[116, 104, 105, 115, 95, 110, 97, 109, 101, 95, 105, 115, 95, 108, 111, 110, 103, 101, 114, 95, 116, 104, 97, 110, 95, 97, 110, 121, 95, 110, 97, 109, 101, 95, 109, 97, 121, 95, 98, 101, 95, 120]⟩, .string ⟨#[1]⟩]) (.int .i64 ((7 : Nat) : Int))).run Tryd.prog W = .ok (.string ⟨#[46, 46]⟩) W := by kernel_rfl
theorem lw_no7 : lxWord ([46, 46] ++ [32, 98]) = none := by kernel_rfl
theorem lw_ix8 (W : World) : (Instr.index 41 (.agg #[.string ⟨#[37]⟩, .string ⟨#[49, 97]⟩, .string ⟨#[48, 49]⟩, .string ⟨#[45]⟩, .string ⟨#[34]⟩, .string ⟨#[34, 92, 113, 34]⟩, .string ⟨#[34, 34, 34]⟩, .string ⟨#[46, 46]⟩, .string ⟨#[116, 104, 105, 115, 95, 110, 97, 109, 101, 95, 105, 115, 95, 108, 111, 110, 103, 101, 114, 95, 116, 104, 97, 110, 95, 97, 110, 121, 95, 110, 97, 109, 101, 95, 109, 97, 121, 95, 98, 101, 95, 120]⟩, .string ⟨#[1]⟩]) (.int .i64 ((8 : Nat) : Int))).run Tryd.prog W = .ok (.string ⟨#[116, 104, 105, 115, 95, 110, 97, 109, 101, 95, 105, 115, 95, 108, 111, 110, 103, 101, 114, 95, 116, 104, 97, 110, 95, 97, 110, 121, 95, 110, 97, 109, 101, 95, 109, 97, 121, 95, 98, 101, 95, 120]⟩) W := by kernel_rfl
theorem lw_no8 : lxWord ([116, 104, 105, 115, 95, 110, 97, 109, 101, 95, 105, 115, 95, 108, 111, 110, 103, 101, 114, 95, 116, 104, 97, 110, 95, 97, 110, 121, 95, 110, 97, 109, 101, 95, 109, 97, 121, 95, 98, 101, 95, 120] ++ [32, 98]) = none := by kernel_rfl
theorem lw_ix9 (W : World) : (Instr.index 41 (.agg #[.string ⟨#[37]⟩, .string ⟨#[49, 97]⟩, .string ⟨#[48, 49]⟩, .string ⟨#[45]⟩, .string ⟨#[34]⟩, .string ⟨#[34, 92, 113, 34]⟩, .string ⟨#[34, 34, 34]⟩, .string ⟨#[46, 46]⟩, .string ⟨#[116, 104, 105, 115, 95, 110, 97, 109, 101, 95, 105, 115, 95, 108, 111, 110, 103, 101, 114, 95, 116, 104, 97, 110, 95, 97, 110, 121, 95, 110, 97, 109, 101, 95, 109, 97, 121, 95, 98, 101, 95, 120]⟩, .string ⟨#[1]⟩]) (.int .i64 ((9 : Nat) : Int))).run Tryd.prog W = .ok (.string ⟨#[1]⟩) W := by kernel_rfl
theorem lw_no9 : lxWord ([1] ++ [32, 98]) = none := by kernel_rfl

set_option maxHeartbeats 1000000 in
set_option maxRecDepth 100000 in
theorem lw_walk (n how : Int) (w : World) (k m : Nat) (x : ByteArray) (hk : k ≤ 40)
    (HPn : ∀ W, Calls Tryd.prog 13 #[.int .i64 n, .int .i64 40] W fun e w' => e = .returned (.int .i64 (k : Int)) ∧ W = w')
    (HPm : ∀ W, Calls Tryd.prog 13 #[.int .i64 how, .int .i64 10] W fun e w' => e = .returned (.int .i64 (m : Int)) ∧ W = w')
    (hix : ∀ W, (Instr.index 41 (.agg #[.string ⟨#[37]⟩, .string ⟨#[49, 97]⟩, .string ⟨#[48, 49]⟩, .string ⟨#[45]⟩, .string ⟨#[34]⟩, .string ⟨#[34, 92, 113, 34]⟩, .string ⟨#[34, 34, 34]⟩, .string ⟨#[46, 46]⟩, .string ⟨#[116, 104, 105, 115, 95, 110, 97, 109, 101, 95, 105, 115, 95, 108, 111, 110, 103, 101, 114, 95, 116, 104, 97, 110, 95, 97, 110, 121, 95, 110, 97, 109, 101, 95, 109, 97, 121, 95, 98, 101, 95, 120]⟩, .string ⟨#[1]⟩]) (.int .i64 (m : Int))).run Tryd.prog W = .ok (.string x) W)
    (hlex : lexP (repA k ++ x.data.toList ++ [32, 98]) = ([], 2 * k, 2)) (hxs : x.size ≤ 50) :
    Calls Tryd.prog 6 #[.int .i64 n, .int .i64 how] w (TrueBelow w) := by
  go_enter Tryd.func6, Tryd.ntmps6
  go_wp2_with fail
  refine (HPn _).mono ?_
  rintro e w1 ⟨rfl, rfl⟩
  go_wp2_with fail
  go_loop [6, 7] (fun v6 v7 => ∃ (i : Nat) (t : ByteArray), i ≤ k ∧ v7 = .int .i64 i ∧ v6 = .string t ∧ Hid (t.data.toList = repA i)) (fun _ v7 => k - (intOf v7).toNat)
  case atStart => exact ⟨0, ⟨#[]⟩, Nat.zero_le _, rfl, rfl, Lib.hid rfl⟩
  case round =>
    obtain ⟨i, t, hik, rfl, rfl, HT⟩ := hrel
    have hts : t.size ≤ 80 := by have : t.data.toList.length = t.size := rfl; rw [← this, HT.out, repA_len]; omega
    by_cases hlt : i < k
    · have hd1 : decide ((i : Int) < k) = true := decide_eq_true (by omega)
      go_wp2_with fail
      go_round
      case rel => exact ⟨i + 1, t ++ ⟨#[97, 44]⟩, by omega, by go_num, rfl, Lib.hid (by rw [app_list, HT.out, repA_snoc])⟩
      case measure => simp [intOf]; omega
    · have hd1 : decide ((i : Int) < k) = false := decide_eq_false (by omega)
      obtain rfl : i = k := by omega
      have hA := fun W => lex_err (s := t ++ x ++ ⟨#[32, 98]⟩) (show lexP _ = ([], 2 * i, 2) by rw [app_list, app_list, HT.out]; exact hlex) W (by rw [ByteArray.size_append, ByteArray.size_append]; show _ + 2 ≤ _; omega)
      rw [show ((2 * i : Nat) : Int) = 2 * (i : Int) by omega] at hA
      go_wp2_with fail
      refine (HPm _).mono ?_
      rintro e w1 ⟨rfl, rfl⟩
      go_wp2_with fail
      refine (hA _).mono ?_
      rintro e w2 ⟨b2, ao, cap, rfl⟩
      go_wp2_with fail
      refine (lxAwake _).mono ?_
      rintro e w3 ⟨rfl, b3⟩
      go_wp2_with fail
      go_ret
      exact ⟨rfl, b2.trans (b3.mono b2.size)⟩

theorem lexWrong_walk (n how : Int) (w : World) : Calls Tryd.prog 6 #[.int .i64 n, .int .i64 how] w (TrueBelow w) := by
  obtain ⟨k, ek, lk⟩ := lrem_nat n 40 (by omega)
  obtain ⟨m, em, lm⟩ := lrem_nat how 10 (by omega)
  have HPn : ∀ W, Calls Tryd.prog 13 #[.int .i64 n, .int .i64 40] W fun e w' => e = .returned (.int .i64 (k : Int)) ∧ W = w' := fun W => by have := place_any n 40 W (by omega) (by omega); rw [ek] at this; exact this
  have HPm : ∀ W, Calls Tryd.prog 13 #[.int .i64 how, .int .i64 10] W fun e w' => e = .returned (.int .i64 (m : Int)) ∧ W = w' := fun W => by have := place_any how 10 W (by omega) (by omega); rw [em] at this; exact this
  have hm : m < 10 := by omega
  have hk : k ≤ 40 := by omega
  clear ek em lk lm
  match m, hm with
  | 0, _ => exact lw_walk n how w k 0 ⟨#[37]⟩ hk HPn HPm lw_ix0 (wrong_at (x := [37]) rfl (by decide) (by decide) lw_no0 (by decide) k hk) (by decide)
  | 1, _ => exact lw_walk n how w k 1 ⟨#[49, 97]⟩ hk HPn HPm lw_ix1 (wrong_at (x := [49, 97]) rfl (by decide) (by decide) lw_no1 (by decide) k hk) (by decide)
  | 2, _ => exact lw_walk n how w k 2 ⟨#[48, 49]⟩ hk HPn HPm lw_ix2 (wrong_at (x := [48, 49]) rfl (by decide) (by decide) lw_no2 (by decide) k hk) (by decide)
  | 3, _ => exact lw_walk n how w k 3 ⟨#[45]⟩ hk HPn HPm lw_ix3 (wrong_at (x := [45]) rfl (by decide) (by decide) lw_no3 (by decide) k hk) (by decide)
  | 4, _ => exact lw_walk n how w k 4 ⟨#[34]⟩ hk HPn HPm lw_ix4 (wrong_at (x := [34]) rfl (by decide) (by decide) lw_no4 (by decide) k hk) (by decide)
  | 5, _ => exact lw_walk n how w k 5 ⟨#[34, 92, 113, 34]⟩ hk HPn HPm lw_ix5 (wrong_at (x := [34, 92, 113, 34]) rfl (by decide) (by decide) lw_no5 (by decide) k hk) (by decide)
  | 6, _ => exact lw_walk n how w k 6 ⟨#[34, 34, 34]⟩ hk HPn HPm lw_ix6 (wrong_at (x := [34, 34, 34]) rfl (by decide) (by decide) lw_no6 (by decide) k hk) (by decide)
  | 7, _ => exact lw_walk n how w k 7 ⟨#[46, 46]⟩ hk HPn HPm lw_ix7 (wrong_at (x := [46, 46]) rfl (by decide) (by decide) lw_no7 (by decide) k hk) (by decide)
  | 8, _ => exact lw_walk n how w k 8 ⟨#[116, 104, 105, 115, 95, 110, 97, 109, 101, 95, 105, 115, 95, 108, 111, 110, 103, 101, 114, 95, 116, 104, 97, 110, 95, 97, 110, 121, 95, 110, 97, 109, 101, 95, 109, 97, 121, 95, 98, 101, 95, 120]⟩ hk HPn HPm lw_ix8 (wrong_at (x := [116, 104, 105, 115, 95, 110, 97, 109, 101, 95, 105, 115, 95, 108, 111, 110, 103, 101, 114, 95, 116, 104, 97, 110, 95, 97, 110, 121, 95, 110, 97, 109, 101, 95, 109, 97, 121, 95, 98, 101, 95, 120]) rfl (by decide) (by decide) lw_no8 (by decide) k hk) (by decide)
  | 9, _ => exact lw_walk n how w k 9 ⟨#[1]⟩ hk HPn HPm lw_ix9 (wrong_at (x := [1]) rfl (by decide) (by decide) lw_no9 (by decide) k hk) (by decide)

end Go.Proofs.YtakmkhkbeabgcaaDoor
