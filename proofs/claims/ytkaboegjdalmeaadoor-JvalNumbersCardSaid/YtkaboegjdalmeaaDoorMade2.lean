/-
  What refectorylaw02.Made answers where it makes a value of no parts.
-/
import Derived.Test.YtkaboegjdalmeaaDoorMade
namespace Go.Proofs.YtkaboegjdalmeaaDoor
open Go.RowKit

def MadeIs (d : Nat) (w : World) (e : Ending) (w' : World) : Prop :=
  ∃ (x : JV) (v : Value) (at' : Nat), e = .returned (.tuple #[v, .int .i64 at']) ∧ at' ≤ 100 ∧ RdD w' (fun b => w.heap.size ≤ b ∧ b < w'.heap.size) d x v ∧ chkAt d x = true ∧ (txt d x).length ≤ tlen d ∧ Below w.heap.size w w'

theorem made_leaf {d : Nat} (hd : 1 ≤ d) (k : Int) (S : ByteArray) (at' : Nat) (hat : at' ≤ 100) (w w' : World) (hb : Below w.heap.size w w') (h7 : k ≠ 7) (h8 : k ≠ 8) (hS : S.size ≤ 11) (hc : leafB k (vbl S) = true) :
    MadeIs d w (.returned (.tuple #[.agg #[.int .i64 k, .string S, .slice none 0 0, .slice none 0 0], .int .i64 at'])) w' := by
  match d, hd with
  | d + 1, _ =>
  refine ⟨.mk k S [] [], _, at', rfl, hat, ⟨none, 0, none, 0, rfl, ⟨by show S.size ≤ _; omega, Nat.zero_le _, Nat.zero_le _, Nat.le_refl _, Nat.le_refl _⟩, fun h => absurd h (Nat.not_lt_zero _), fun h => absurd h (Nat.not_lt_zero _)⟩, ?_, ?_, hb⟩
  · show (selfB (.mk k S [] []) && [].all (chkAt d)) = true
    rw [self_leaf (x := .mk k S [] []) h7 h8]
    show (true && true && leafB k (vbl S) && true) = true
    rw [hc]
    rfl
  · have hl : (vbl S).length ≤ 11 := hS
    have e : tlen (d + 1) = 100 + 3 * (tlen d + 20) := rfl
    rw [e]
    by_cases h1 : k = 1
    · rw [txt_null (x := .mk k S [] []) h1]; show 4 ≤ _; omega
    · by_cases h5 : k = 5
      · rw [txt_str (x := .mk k S [] []) h5]
        show (quoteB (vbl S)).length ≤ _
        unfold quoteB
        have := quoteIn_len (vbl S)
        split
        · simp only [List.length_cons, List.length_append, List.length_nil]; omega
        · simp
      · rw [txt_leaf (x := .mk k S [] []) h1 h5 h7 h8]
        show (vbl S).length ≤ _
        omega

theorem leaf2 : leafB 2 [116, 114, 117, 101] = true ∧ leafB 2 [102, 97, 108, 115, 101] = true := by decide
theorem leaf3 : leafB 3 [48] = true ∧ leafB 3 [45, 53] = true ∧ leafB 3 [49, 50] = true ∧ leafB 3 [50, 49, 52, 55, 52, 56, 51, 54, 52, 55] = true ∧ leafB 3 [57, 57, 57, 57, 57, 57, 57, 57, 57, 57, 57] = true := by decide
theorem leaf4 : leafB 4 [49, 46, 53] = true ∧ leafB 4 [48, 101, 49] = true ∧ leafB 4 [45, 48, 46, 50, 53, 69, 45, 51] = true ∧ leafB 4 [49, 101, 43, 57] = true := by decide
theorem leaf5 (l : List UInt8) (h : Lib.validD l = true) : leafB 5 l = true := by
  unfold leafB
  rw [if_neg (by decide), if_neg (by decide), if_neg (by decide), if_neg (by decide), if_pos rfl]
  exact h
theorem leaf1 : leafB 1 [] = true := by decide
theorem val5 : Lib.validD [] = true ∧ Lib.validD [97] = true ∧ Lib.validD [34] = true ∧ Lib.validD [195, 169, 10] = true ∧ Lib.validD [120, 32, 121] = true := by
  refine ⟨rfl, ex_valid, ?_, ?_, ?_⟩
  · rw [Lib.validD_cons _ _ (by decide)]; rfl
  · rw [Lib.validD_step _ (by simp)]
    have : Lib.decodeL [195, 169, 10] = (233, 2) := by
      rw [Lib.decodeL_N]
      decide
    rw [this]
    simp only [List.drop_succ_cons, List.drop_zero]
    rw [if_neg (by decide), Lib.validD_cons _ _ (by decide)]
    rfl
  · rw [Lib.validD_cons _ _ (by decide), Lib.validD_cons _ _ (by decide), Lib.validD_cons _ _ (by decide)]; rfl

/-- The numbers that the law reads. -/
def IntsAt (w : World) (B : Nat) (a : Option Addr) (zs : List Int) : Prop := 0 < zs.length → ∃ b off, a = some ⟨b, off, none⟩ ∧ b < B ∧ ∀ i z, zs[i]? = some z → w.cell? ⟨b, off + i, none⟩ = some (.int .i64 z)

set_option maxHeartbeats 1000000 in
set_option maxRecDepth 100000 in
theorem made_end (d : Nat) (hd : 1 ≤ d) (a : Option Addr) (cap : Nat) (zs : List Int) (at0 : Nat) (w : World) (hat : at0 ≤ 100) (h : zs.length ≤ at0) :
    Calls Tryd.prog 19 #[.slice a zs.length cap, .int .i64 at0, .int .i64 d] w (MadeIs d w) := by
  have dd : decide (zs.length ≤ at0) = true := by simpa using h
  go_enter Tryd.func19, Tryd.ntmps19
  go_wp2_with fail
  refine bodyPost_ret (v := .tuple #[.agg #[.int .i64 1, .string ⟨#[]⟩, .slice none 0 0, .slice none 0 0], .int .i64 at0]) (by simp [results, Tryd.results19, go_sem]) rfl ?_
  exact made_leaf hd 1 ⟨#[]⟩ at0 hat w _ ((Below.refl _ w).alloc (Nat.le_refl _) _) (by decide) (by decide) (by decide) leaf1

-- LEAVES
set_option maxHeartbeats 2000000 in
set_option maxRecDepth 100000 in
theorem made_0 (d : Nat) (hd : 1 ≤ d) (a : Option Addr) (cap : Nat) (zs : List Int) (at0 u : Nat) (w : World) (hat : at0 ≤ 99) (h : at0 < zs.length)  (hu : u < 1048576)
    (b off : Nat) (z : Int) (ha : a = some ⟨b, off, none⟩) (hb : b < w.heap.size) (hc : w.cell? ⟨b, off + at0, none⟩ = some (.int .i64 z)) (hp : ∀ W, Calls Tryd.prog 20 #[.int .i64 z, .int .i64 1048576] W fun e w' => e = .returned (.int .i64 (u : Int)) ∧ W = w') (hk : u % 7 = 0) :
    Calls Tryd.prog 19 #[.slice a zs.length cap, .int .i64 at0, .int .i64 d] w (MadeIs d w) := by
  subst ha
  have d0 : decide (zs.length ≤ at0) = false := by simp; omega
  have l1 : b < w.heap.size + 1 := by omega
  have q7 : (u : Int) % 7 = 0 := by omega
  have hm : u / 7 % 2 = 0 ∨ u / 7 % 2 = 1 := by omega
  clear hk
  rcases hm with hm | hm
  · have qm : (u : Int) / 7 % 2 = 0 := by omega
    clear hm
    have ix : ∀ w, (Instr.index 60 (.agg #[.string ⟨#[116, 114, 117, 101]⟩, .string ⟨#[102, 97, 108, 115, 101]⟩]) (.int .i64 0)).run Tryd.prog w = .ok (.string ⟨#[116, 114, 117, 101]⟩) w := fun _ => by kernel_rfl
    go_enter Tryd.func19, Tryd.ntmps19
    go_wp2_with ((go_at_call 20); (with_reducible refine (hp _).mono ?_); rintro e w' ⟨rfl, rfl⟩)
    refine bodyPost_ret (v := .tuple #[.agg #[.int .i64 2, .string ⟨#[116, 114, 117, 101]⟩, .slice none 0 0, .slice none 0 0], .int .i64 ((at0 + 1 : Nat) : Int)]) (by simp [results, Tryd.results19, go_sem]) rfl ?_
    exact made_leaf hd 2 ⟨#[116, 114, 117, 101]⟩ (at0 + 1) (by omega) w _ ((Below.refl _ w).alloc (Nat.le_refl _) _) (by decide) (by decide) (by decide) leaf2.1
  · have qm : (u : Int) / 7 % 2 = 1 := by omega
    clear hm
    have ix : ∀ w, (Instr.index 60 (.agg #[.string ⟨#[116, 114, 117, 101]⟩, .string ⟨#[102, 97, 108, 115, 101]⟩]) (.int .i64 1)).run Tryd.prog w = .ok (.string ⟨#[102, 97, 108, 115, 101]⟩) w := fun _ => by kernel_rfl
    go_enter Tryd.func19, Tryd.ntmps19
    go_wp2_with ((go_at_call 20); (with_reducible refine (hp _).mono ?_); rintro e w' ⟨rfl, rfl⟩)
    refine bodyPost_ret (v := .tuple #[.agg #[.int .i64 2, .string ⟨#[102, 97, 108, 115, 101]⟩, .slice none 0 0, .slice none 0 0], .int .i64 ((at0 + 1 : Nat) : Int)]) (by simp [results, Tryd.results19, go_sem]) rfl ?_
    exact made_leaf hd 2 ⟨#[102, 97, 108, 115, 101]⟩ (at0 + 1) (by omega) w _ ((Below.refl _ w).alloc (Nat.le_refl _) _) (by decide) (by decide) (by decide) leaf2.2
set_option maxHeartbeats 2000000 in
set_option maxRecDepth 100000 in
theorem made_1 (d : Nat) (hd : 1 ≤ d) (a : Option Addr) (cap : Nat) (zs : List Int) (at0 u : Nat) (w : World) (hat : at0 ≤ 99) (h : at0 < zs.length)  (hu : u < 1048576)
    (b off : Nat) (z : Int) (ha : a = some ⟨b, off, none⟩) (hb : b < w.heap.size) (hc : w.cell? ⟨b, off + at0, none⟩ = some (.int .i64 z)) (hp : ∀ W, Calls Tryd.prog 20 #[.int .i64 z, .int .i64 1048576] W fun e w' => e = .returned (.int .i64 (u : Int)) ∧ W = w') (hk : u % 7 = 1) :
    Calls Tryd.prog 19 #[.slice a zs.length cap, .int .i64 at0, .int .i64 d] w (MadeIs d w) := by
  subst ha
  have d0 : decide (zs.length ≤ at0) = false := by simp; omega
  have l1 : b < w.heap.size + 1 := by omega
  have q7 : (u : Int) % 7 = 1 := by omega
  have hm : u / 7 % 5 = 0 ∨ u / 7 % 5 = 1 ∨ u / 7 % 5 = 2 ∨ u / 7 % 5 = 3 ∨ u / 7 % 5 = 4 := by omega
  clear hk
  rcases hm with hm | hm | hm | hm | hm
  · have qm : (u : Int) / 7 % 5 = 0 := by omega
    clear hm
    have ix : ∀ w, (Instr.index 61 (.agg #[.string ⟨#[48]⟩, .string ⟨#[45, 53]⟩, .string ⟨#[49, 50]⟩, .string ⟨#[50, 49, 52, 55, 52, 56, 51, 54, 52, 55]⟩, .string ⟨#[57, 57, 57, 57, 57, 57, 57, 57, 57, 57, 57]⟩]) (.int .i64 0)).run Tryd.prog w = .ok (.string ⟨#[48]⟩) w := fun _ => by kernel_rfl
    go_enter Tryd.func19, Tryd.ntmps19
    go_wp2_with ((go_at_call 20); (with_reducible refine (hp _).mono ?_); rintro e w' ⟨rfl, rfl⟩)
    refine bodyPost_ret (v := .tuple #[.agg #[.int .i64 3, .string ⟨#[48]⟩, .slice none 0 0, .slice none 0 0], .int .i64 ((at0 + 1 : Nat) : Int)]) (by simp [results, Tryd.results19, go_sem]) rfl ?_
    exact made_leaf hd 3 ⟨#[48]⟩ (at0 + 1) (by omega) w _ ((Below.refl _ w).alloc (Nat.le_refl _) _) (by decide) (by decide) (by decide) leaf3.1
  · have qm : (u : Int) / 7 % 5 = 1 := by omega
    clear hm
    have ix : ∀ w, (Instr.index 61 (.agg #[.string ⟨#[48]⟩, .string ⟨#[45, 53]⟩, .string ⟨#[49, 50]⟩, .string ⟨#[50, 49, 52, 55, 52, 56, 51, 54, 52, 55]⟩, .string ⟨#[57, 57, 57, 57, 57, 57, 57, 57, 57, 57, 57]⟩]) (.int .i64 1)).run Tryd.prog w = .ok (.string ⟨#[45, 53]⟩) w := fun _ => by kernel_rfl
    go_enter Tryd.func19, Tryd.ntmps19
    go_wp2_with ((go_at_call 20); (with_reducible refine (hp _).mono ?_); rintro e w' ⟨rfl, rfl⟩)
    refine bodyPost_ret (v := .tuple #[.agg #[.int .i64 3, .string ⟨#[45, 53]⟩, .slice none 0 0, .slice none 0 0], .int .i64 ((at0 + 1 : Nat) : Int)]) (by simp [results, Tryd.results19, go_sem]) rfl ?_
    exact made_leaf hd 3 ⟨#[45, 53]⟩ (at0 + 1) (by omega) w _ ((Below.refl _ w).alloc (Nat.le_refl _) _) (by decide) (by decide) (by decide) leaf3.2.1
  · have qm : (u : Int) / 7 % 5 = 2 := by omega
    clear hm
    have ix : ∀ w, (Instr.index 61 (.agg #[.string ⟨#[48]⟩, .string ⟨#[45, 53]⟩, .string ⟨#[49, 50]⟩, .string ⟨#[50, 49, 52, 55, 52, 56, 51, 54, 52, 55]⟩, .string ⟨#[57, 57, 57, 57, 57, 57, 57, 57, 57, 57, 57]⟩]) (.int .i64 2)).run Tryd.prog w = .ok (.string ⟨#[49, 50]⟩) w := fun _ => by kernel_rfl
    go_enter Tryd.func19, Tryd.ntmps19
    go_wp2_with ((go_at_call 20); (with_reducible refine (hp _).mono ?_); rintro e w' ⟨rfl, rfl⟩)
    refine bodyPost_ret (v := .tuple #[.agg #[.int .i64 3, .string ⟨#[49, 50]⟩, .slice none 0 0, .slice none 0 0], .int .i64 ((at0 + 1 : Nat) : Int)]) (by simp [results, Tryd.results19, go_sem]) rfl ?_
    exact made_leaf hd 3 ⟨#[49, 50]⟩ (at0 + 1) (by omega) w _ ((Below.refl _ w).alloc (Nat.le_refl _) _) (by decide) (by decide) (by decide) leaf3.2.2.1
  · have qm : (u : Int) / 7 % 5 = 3 := by omega
    clear hm
    have ix : ∀ w, (Instr.index 61 (.agg #[.string ⟨#[48]⟩, .string ⟨#[45, 53]⟩, .string ⟨#[49, 50]⟩, .string ⟨#[50, 49, 52, 55, 52, 56, 51, 54, 52, 55]⟩, .string ⟨#[57, 57, 57, 57, 57, 57, 57, 57, 57, 57, 57]⟩]) (.int .i64 3)).run Tryd.prog w = .ok (.string ⟨#[50, 49, 52, 55, 52, 56, 51, 54, 52, 55]⟩) w := fun _ => by kernel_rfl
    go_enter Tryd.func19, Tryd.ntmps19
    go_wp2_with ((go_at_call 20); (with_reducible refine (hp _).mono ?_); rintro e w' ⟨rfl, rfl⟩)
    refine bodyPost_ret (v := .tuple #[.agg #[.int .i64 3, .string ⟨#[50, 49, 52, 55, 52, 56, 51, 54, 52, 55]⟩, .slice none 0 0, .slice none 0 0], .int .i64 ((at0 + 1 : Nat) : Int)]) (by simp [results, Tryd.results19, go_sem]) rfl ?_
    exact made_leaf hd 3 ⟨#[50, 49, 52, 55, 52, 56, 51, 54, 52, 55]⟩ (at0 + 1) (by omega) w _ ((Below.refl _ w).alloc (Nat.le_refl _) _) (by decide) (by decide) (by decide) leaf3.2.2.2.1
  · have qm : (u : Int) / 7 % 5 = 4 := by omega
    clear hm
    have ix : ∀ w, (Instr.index 61 (.agg #[.string ⟨#[48]⟩, .string ⟨#[45, 53]⟩, .string ⟨#[49, 50]⟩, .string ⟨#[50, 49, 52, 55, 52, 56, 51, 54, 52, 55]⟩, .string ⟨#[57, 57, 57, 57, 57, 57, 57, 57, 57, 57, 57]⟩]) (.int .i64 4)).run Tryd.prog w = .ok (.string ⟨#[57, 57, 57, 57, 57, 57, 57, 57, 57, 57, 57]⟩) w := fun _ => by kernel_rfl
    go_enter Tryd.func19, Tryd.ntmps19
    go_wp2_with ((go_at_call 20); (with_reducible refine (hp _).mono ?_); rintro e w' ⟨rfl, rfl⟩)
    refine bodyPost_ret (v := .tuple #[.agg #[.int .i64 3, .string ⟨#[57, 57, 57, 57, 57, 57, 57, 57, 57, 57, 57]⟩, .slice none 0 0, .slice none 0 0], .int .i64 ((at0 + 1 : Nat) : Int)]) (by simp [results, Tryd.results19, go_sem]) rfl ?_
    exact made_leaf hd 3 ⟨#[57, 57, 57, 57, 57, 57, 57, 57, 57, 57, 57]⟩ (at0 + 1) (by omega) w _ ((Below.refl _ w).alloc (Nat.le_refl _) _) (by decide) (by decide) (by decide) leaf3.2.2.2.2
set_option maxHeartbeats 2000000 in
set_option maxRecDepth 100000 in
theorem made_2 (d : Nat) (hd : 1 ≤ d) (a : Option Addr) (cap : Nat) (zs : List Int) (at0 u : Nat) (w : World) (hat : at0 ≤ 99) (h : at0 < zs.length)  (hu : u < 1048576)
    (b off : Nat) (z : Int) (ha : a = some ⟨b, off, none⟩) (hb : b < w.heap.size) (hc : w.cell? ⟨b, off + at0, none⟩ = some (.int .i64 z)) (hp : ∀ W, Calls Tryd.prog 20 #[.int .i64 z, .int .i64 1048576] W fun e w' => e = .returned (.int .i64 (u : Int)) ∧ W = w') (hk : u % 7 = 2) :
    Calls Tryd.prog 19 #[.slice a zs.length cap, .int .i64 at0, .int .i64 d] w (MadeIs d w) := by
  subst ha
  have d0 : decide (zs.length ≤ at0) = false := by simp; omega
  have l1 : b < w.heap.size + 1 := by omega
  have q7 : (u : Int) % 7 = 2 := by omega
  have hm : u / 7 % 4 = 0 ∨ u / 7 % 4 = 1 ∨ u / 7 % 4 = 2 ∨ u / 7 % 4 = 3 := by omega
  clear hk
  rcases hm with hm | hm | hm | hm
  · have qm : (u : Int) / 7 % 4 = 0 := by omega
    clear hm
    have ix : ∀ w, (Instr.index 62 (.agg #[.string ⟨#[49, 46, 53]⟩, .string ⟨#[48, 101, 49]⟩, .string ⟨#[45, 48, 46, 50, 53, 69, 45, 51]⟩, .string ⟨#[49, 101, 43, 57]⟩]) (.int .i64 0)).run Tryd.prog w = .ok (.string ⟨#[49, 46, 53]⟩) w := fun _ => by kernel_rfl
    go_enter Tryd.func19, Tryd.ntmps19
    go_wp2_with ((go_at_call 20); (with_reducible refine (hp _).mono ?_); rintro e w' ⟨rfl, rfl⟩)
    refine bodyPost_ret (v := .tuple #[.agg #[.int .i64 4, .string ⟨#[49, 46, 53]⟩, .slice none 0 0, .slice none 0 0], .int .i64 ((at0 + 1 : Nat) : Int)]) (by simp [results, Tryd.results19, go_sem]) rfl ?_
    exact made_leaf hd 4 ⟨#[49, 46, 53]⟩ (at0 + 1) (by omega) w _ ((Below.refl _ w).alloc (Nat.le_refl _) _) (by decide) (by decide) (by decide) leaf4.1
  · have qm : (u : Int) / 7 % 4 = 1 := by omega
    clear hm
    have ix : ∀ w, (Instr.index 62 (.agg #[.string ⟨#[49, 46, 53]⟩, .string ⟨#[48, 101, 49]⟩, .string ⟨#[45, 48, 46, 50, 53, 69, 45, 51]⟩, .string ⟨#[49, 101, 43, 57]⟩]) (.int .i64 1)).run Tryd.prog w = .ok (.string ⟨#[48, 101, 49]⟩) w := fun _ => by kernel_rfl
    go_enter Tryd.func19, Tryd.ntmps19
    go_wp2_with ((go_at_call 20); (with_reducible refine (hp _).mono ?_); rintro e w' ⟨rfl, rfl⟩)
    refine bodyPost_ret (v := .tuple #[.agg #[.int .i64 4, .string ⟨#[48, 101, 49]⟩, .slice none 0 0, .slice none 0 0], .int .i64 ((at0 + 1 : Nat) : Int)]) (by simp [results, Tryd.results19, go_sem]) rfl ?_
    exact made_leaf hd 4 ⟨#[48, 101, 49]⟩ (at0 + 1) (by omega) w _ ((Below.refl _ w).alloc (Nat.le_refl _) _) (by decide) (by decide) (by decide) leaf4.2.1
  · have qm : (u : Int) / 7 % 4 = 2 := by omega
    clear hm
    have ix : ∀ w, (Instr.index 62 (.agg #[.string ⟨#[49, 46, 53]⟩, .string ⟨#[48, 101, 49]⟩, .string ⟨#[45, 48, 46, 50, 53, 69, 45, 51]⟩, .string ⟨#[49, 101, 43, 57]⟩]) (.int .i64 2)).run Tryd.prog w = .ok (.string ⟨#[45, 48, 46, 50, 53, 69, 45, 51]⟩) w := fun _ => by kernel_rfl
    go_enter Tryd.func19, Tryd.ntmps19
    go_wp2_with ((go_at_call 20); (with_reducible refine (hp _).mono ?_); rintro e w' ⟨rfl, rfl⟩)
    refine bodyPost_ret (v := .tuple #[.agg #[.int .i64 4, .string ⟨#[45, 48, 46, 50, 53, 69, 45, 51]⟩, .slice none 0 0, .slice none 0 0], .int .i64 ((at0 + 1 : Nat) : Int)]) (by simp [results, Tryd.results19, go_sem]) rfl ?_
    exact made_leaf hd 4 ⟨#[45, 48, 46, 50, 53, 69, 45, 51]⟩ (at0 + 1) (by omega) w _ ((Below.refl _ w).alloc (Nat.le_refl _) _) (by decide) (by decide) (by decide) leaf4.2.2.1
  · have qm : (u : Int) / 7 % 4 = 3 := by omega
    clear hm
    have ix : ∀ w, (Instr.index 62 (.agg #[.string ⟨#[49, 46, 53]⟩, .string ⟨#[48, 101, 49]⟩, .string ⟨#[45, 48, 46, 50, 53, 69, 45, 51]⟩, .string ⟨#[49, 101, 43, 57]⟩]) (.int .i64 3)).run Tryd.prog w = .ok (.string ⟨#[49, 101, 43, 57]⟩) w := fun _ => by kernel_rfl
    go_enter Tryd.func19, Tryd.ntmps19
    go_wp2_with ((go_at_call 20); (with_reducible refine (hp _).mono ?_); rintro e w' ⟨rfl, rfl⟩)
    refine bodyPost_ret (v := .tuple #[.agg #[.int .i64 4, .string ⟨#[49, 101, 43, 57]⟩, .slice none 0 0, .slice none 0 0], .int .i64 ((at0 + 1 : Nat) : Int)]) (by simp [results, Tryd.results19, go_sem]) rfl ?_
    exact made_leaf hd 4 ⟨#[49, 101, 43, 57]⟩ (at0 + 1) (by omega) w _ ((Below.refl _ w).alloc (Nat.le_refl _) _) (by decide) (by decide) (by decide) leaf4.2.2.2
set_option maxHeartbeats 2000000 in
set_option maxRecDepth 100000 in
theorem made_3 (d : Nat) (hd : 1 ≤ d) (a : Option Addr) (cap : Nat) (zs : List Int) (at0 u : Nat) (w : World) (hat : at0 ≤ 99) (h : at0 < zs.length)  (hu : u < 1048576)
    (b off : Nat) (z : Int) (ha : a = some ⟨b, off, none⟩) (hb : b < w.heap.size) (hc : w.cell? ⟨b, off + at0, none⟩ = some (.int .i64 z)) (hp : ∀ W, Calls Tryd.prog 20 #[.int .i64 z, .int .i64 1048576] W fun e w' => e = .returned (.int .i64 (u : Int)) ∧ W = w') (hk : u % 7 = 3) :
    Calls Tryd.prog 19 #[.slice a zs.length cap, .int .i64 at0, .int .i64 d] w (MadeIs d w) := by
  subst ha
  have d0 : decide (zs.length ≤ at0) = false := by simp; omega
  have l1 : b < w.heap.size + 1 := by omega
  have q7 : (u : Int) % 7 = 3 := by omega
  have hm : u / 7 % 5 = 0 ∨ u / 7 % 5 = 1 ∨ u / 7 % 5 = 2 ∨ u / 7 % 5 = 3 ∨ u / 7 % 5 = 4 := by omega
  clear hk
  rcases hm with hm | hm | hm | hm | hm
  · have qm : (u : Int) / 7 % 5 = 0 := by omega
    clear hm
    have ix : ∀ w, (Instr.index 61 (.agg #[.string ⟨#[]⟩, .string ⟨#[97]⟩, .string ⟨#[34]⟩, .string ⟨#[195, 169, 10]⟩, .string ⟨#[120, 32, 121]⟩]) (.int .i64 0)).run Tryd.prog w = .ok (.string ⟨#[]⟩) w := fun _ => by kernel_rfl
    go_enter Tryd.func19, Tryd.ntmps19
    go_wp2_with ((go_at_call 20); (with_reducible refine (hp _).mono ?_); rintro e w' ⟨rfl, rfl⟩)
    refine bodyPost_ret (v := .tuple #[.agg #[.int .i64 5, .string ⟨#[]⟩, .slice none 0 0, .slice none 0 0], .int .i64 ((at0 + 1 : Nat) : Int)]) (by simp [results, Tryd.results19, go_sem]) rfl ?_
    exact made_leaf hd 5 ⟨#[]⟩ (at0 + 1) (by omega) w _ ((Below.refl _ w).alloc (Nat.le_refl _) _) (by decide) (by decide) (by decide) (leaf5 _ val5.1)
  · have qm : (u : Int) / 7 % 5 = 1 := by omega
    clear hm
    have ix : ∀ w, (Instr.index 61 (.agg #[.string ⟨#[]⟩, .string ⟨#[97]⟩, .string ⟨#[34]⟩, .string ⟨#[195, 169, 10]⟩, .string ⟨#[120, 32, 121]⟩]) (.int .i64 1)).run Tryd.prog w = .ok (.string ⟨#[97]⟩) w := fun _ => by kernel_rfl
    go_enter Tryd.func19, Tryd.ntmps19
    go_wp2_with ((go_at_call 20); (with_reducible refine (hp _).mono ?_); rintro e w' ⟨rfl, rfl⟩)
    refine bodyPost_ret (v := .tuple #[.agg #[.int .i64 5, .string ⟨#[97]⟩, .slice none 0 0, .slice none 0 0], .int .i64 ((at0 + 1 : Nat) : Int)]) (by simp [results, Tryd.results19, go_sem]) rfl ?_
    exact made_leaf hd 5 ⟨#[97]⟩ (at0 + 1) (by omega) w _ ((Below.refl _ w).alloc (Nat.le_refl _) _) (by decide) (by decide) (by decide) (leaf5 _ val5.2.1)
  · have qm : (u : Int) / 7 % 5 = 2 := by omega
    clear hm
    have ix : ∀ w, (Instr.index 61 (.agg #[.string ⟨#[]⟩, .string ⟨#[97]⟩, .string ⟨#[34]⟩, .string ⟨#[195, 169, 10]⟩, .string ⟨#[120, 32, 121]⟩]) (.int .i64 2)).run Tryd.prog w = .ok (.string ⟨#[34]⟩) w := fun _ => by kernel_rfl
    go_enter Tryd.func19, Tryd.ntmps19
    go_wp2_with ((go_at_call 20); (with_reducible refine (hp _).mono ?_); rintro e w' ⟨rfl, rfl⟩)
    refine bodyPost_ret (v := .tuple #[.agg #[.int .i64 5, .string ⟨#[34]⟩, .slice none 0 0, .slice none 0 0], .int .i64 ((at0 + 1 : Nat) : Int)]) (by simp [results, Tryd.results19, go_sem]) rfl ?_
    exact made_leaf hd 5 ⟨#[34]⟩ (at0 + 1) (by omega) w _ ((Below.refl _ w).alloc (Nat.le_refl _) _) (by decide) (by decide) (by decide) (leaf5 _ val5.2.2.1)
  · have qm : (u : Int) / 7 % 5 = 3 := by omega
    clear hm
    have ix : ∀ w, (Instr.index 61 (.agg #[.string ⟨#[]⟩, .string ⟨#[97]⟩, .string ⟨#[34]⟩, .string ⟨#[195, 169, 10]⟩, .string ⟨#[120, 32, 121]⟩]) (.int .i64 3)).run Tryd.prog w = .ok (.string ⟨#[195, 169, 10]⟩) w := fun _ => by kernel_rfl
    go_enter Tryd.func19, Tryd.ntmps19
    go_wp2_with ((go_at_call 20); (with_reducible refine (hp _).mono ?_); rintro e w' ⟨rfl, rfl⟩)
    refine bodyPost_ret (v := .tuple #[.agg #[.int .i64 5, .string ⟨#[195, 169, 10]⟩, .slice none 0 0, .slice none 0 0], .int .i64 ((at0 + 1 : Nat) : Int)]) (by simp [results, Tryd.results19, go_sem]) rfl ?_
    exact made_leaf hd 5 ⟨#[195, 169, 10]⟩ (at0 + 1) (by omega) w _ ((Below.refl _ w).alloc (Nat.le_refl _) _) (by decide) (by decide) (by decide) (leaf5 _ val5.2.2.2.1)
  · have qm : (u : Int) / 7 % 5 = 4 := by omega
    clear hm
    have ix : ∀ w, (Instr.index 61 (.agg #[.string ⟨#[]⟩, .string ⟨#[97]⟩, .string ⟨#[34]⟩, .string ⟨#[195, 169, 10]⟩, .string ⟨#[120, 32, 121]⟩]) (.int .i64 4)).run Tryd.prog w = .ok (.string ⟨#[120, 32, 121]⟩) w := fun _ => by kernel_rfl
    go_enter Tryd.func19, Tryd.ntmps19
    go_wp2_with ((go_at_call 20); (with_reducible refine (hp _).mono ?_); rintro e w' ⟨rfl, rfl⟩)
    refine bodyPost_ret (v := .tuple #[.agg #[.int .i64 5, .string ⟨#[120, 32, 121]⟩, .slice none 0 0, .slice none 0 0], .int .i64 ((at0 + 1 : Nat) : Int)]) (by simp [results, Tryd.results19, go_sem]) rfl ?_
    exact made_leaf hd 5 ⟨#[120, 32, 121]⟩ (at0 + 1) (by omega) w _ ((Below.refl _ w).alloc (Nat.le_refl _) _) (by decide) (by decide) (by decide) (leaf5 _ val5.2.2.2.2)
set_option maxHeartbeats 2000000 in
set_option maxRecDepth 100000 in
theorem made_hi (d : Nat) (hd : 1 ≤ d) (a : Option Addr) (cap : Nat) (zs : List Int) (at0 u : Nat) (w : World) (hat : at0 ≤ 99) (h : at0 < zs.length)  (hu : u < 1048576)
    (b off : Nat) (z : Int) (ha : a = some ⟨b, off, none⟩) (hb : b < w.heap.size) (hc : w.cell? ⟨b, off + at0, none⟩ = some (.int .i64 z)) (hp : ∀ W, Calls Tryd.prog 20 #[.int .i64 z, .int .i64 1048576] W fun e w' => e = .returned (.int .i64 (u : Int)) ∧ W = w') (hk : 4 < u % 7) :
    Calls Tryd.prog 19 #[.slice a zs.length cap, .int .i64 at0, .int .i64 d] w (MadeIs d w) := by
  subst ha
  have d0 : decide (zs.length ≤ at0) = false := by simp; omega
  have l1 : b < w.heap.size + 1 := by omega
  have q0 : ((u : Int) % 7 == 0) = false := by simp; omega
  have q1 : ((u : Int) % 7 == 1) = false := by simp; omega
  have q2 : ((u : Int) % 7 == 2) = false := by simp; omega
  have q3 : ((u : Int) % 7 == 3) = false := by simp; omega
  have q4 : decide ((4 : Int) < (u : Int) % 7) = true := by simp; omega
  clear hk
  go_enter Tryd.func19, Tryd.ntmps19
  go_wp2_with ((go_at_call 20); (with_reducible refine (hp _).mono ?_); rintro e w' ⟨rfl, rfl⟩)
  refine bodyPost_ret (v := .tuple #[.agg #[.int .i64 1, .string ⟨#[]⟩, .slice none 0 0, .slice none 0 0], .int .i64 ((at0 + 1 : Nat) : Int)]) (by simp [results, Tryd.results19, go_sem]) rfl ?_
  exact made_leaf hd 1 ⟨#[]⟩ (at0 + 1) (by omega) w _ ((Below.refl _ w).alloc (Nat.le_refl _) _) (by decide) (by decide) (by decide) leaf1
set_option maxHeartbeats 2000000 in
set_option maxRecDepth 100000 in
theorem made_flat (d : Nat) (hd : 1 ≤ d) (a : Option Addr) (cap : Nat) (zs : List Int) (at0 u : Nat) (w : World) (hat : at0 ≤ 99) (h : at0 < zs.length)  (hu : u < 1048576)
    (b off : Nat) (z : Int) (ha : a = some ⟨b, off, none⟩) (hb : b < w.heap.size) (hc : w.cell? ⟨b, off + at0, none⟩ = some (.int .i64 z)) (hp : ∀ W, Calls Tryd.prog 20 #[.int .i64 z, .int .i64 1048576] W fun e w' => e = .returned (.int .i64 (u : Int)) ∧ W = w') (hk : u % 7 = 4) (h1 : d = 1) :
    Calls Tryd.prog 19 #[.slice a zs.length cap, .int .i64 at0, .int .i64 d] w (MadeIs d w) := by
  subst ha
  have d0 : decide (zs.length ≤ at0) = false := by simp; omega
  have l1 : b < w.heap.size + 1 := by omega
  have q7 : (u : Int) % 7 = 4 := by omega
  subst h1
  clear hk
  go_enter Tryd.func19, Tryd.ntmps19
  go_wp2_with ((go_at_call 20); (with_reducible refine (hp _).mono ?_); rintro e w' ⟨rfl, rfl⟩)
  refine bodyPost_ret (v := .tuple #[.agg #[.int .i64 1, .string ⟨#[]⟩, .slice none 0 0, .slice none 0 0], .int .i64 ((at0 + 1 : Nat) : Int)]) (by simp [results, Tryd.results19, go_sem]) rfl ?_
  exact made_leaf hd 1 ⟨#[]⟩ (at0 + 1) (by omega) w _ ((Below.refl _ w).alloc (Nat.le_refl _) _) (by decide) (by decide) (by decide) leaf1

end Go.Proofs.YtkaboegjdalmeaaDoor
