/-
  Plain facts on the values by numbers: they are values of JSON; how long their texts are.
-/
import Derived.Test.YtbcenaljaoejkaaDoorText2
import Derived.Test.YtbcenaljaoejkaaDoorPlace
import Derived.Test.YtbcenaljaoejkaaDoorNumForms
import Derived.Test.YtbcenaljaoejkaaDoorCopy3
import Derived.StillTailTactics
import Derived.Deep.Cut
import Derived.Deep.RegionLaw
import Derived.Deep.AppendLies
namespace Go.Proofs.YtbcenaljaoejkaaDoor
open Go.RowKit

/-- Deeper tests say the same of what passes. -/
theorem chk_up : ∀ (d m : Nat) (x : JV), d ≤ m → chkAt d x = true → chkAt m x = true
  | 0, _, _, _, h => by cases h
  | d + 1, 0, _, h, _ => absurd h (by omega)
  | d + 1, m + 1, x, hm, h => by
    unfold chkAt at h ⊢
    rw [Bool.and_eq_true] at h ⊢
    refine ⟨h.1, List.all_eq_true.2 fun y hy => chk_up d m y (by omega) (List.all_eq_true.1 h.2 y hy)⟩
theorem pts_congr (f g : JV → List UInt8) (ob : Bool) : ∀ (fst : Bool) (ns : List ByteArray) (ps : List JV), (∀ p ∈ ps, f p = g p) → pts f ob fst ns ps = pts g ob fst ns ps
  | _, _, [], _ => rfl
  | fst, ns, p :: r, h => by
    unfold pts
    rw [h p (by simp), pts_congr f g ob false ns.tail r (fun q hq => h q (by simp [hq]))]
theorem txt_up : ∀ (d m : Nat) (x : JV), d ≤ m → chkAt d x = true → txt m x = txt d x
  | 0, _, _, _, h => by cases h
  | d + 1, 0, _, h, _ => absurd h (by omega)
  | d + 1, m + 1, x, hm, h => by
    unfold chkAt at h
    rw [Bool.and_eq_true] at h
    have hp : ∀ p ∈ x.ps, txt m p = txt d p := fun p hp => txt_up d m p (by omega) (List.all_eq_true.1 h.2 p hp)
    unfold txt
    rw [pts_congr (txt m) (txt d) false true x.ns x.ps hp, pts_congr (txt m) (txt d) true true x.ns x.ps hp]

/-- No text or name of it holds a backslash. -/
def plainS (s : ByteArray) : Bool := (vbl s).all fun b => b != 92
def tame : Nat → JV → Bool
  | 0, _ => false
  | d + 1, x => plainS x.s && x.ns.all plainS && x.ps.all (tame d)
theorem tame_up : ∀ (d m : Nat) (x : JV), d ≤ m → tame d x = true → tame m x = true
  | 0, _, _, _, h => by cases h
  | d + 1, 0, _, h, _ => absurd h (by omega)
  | d + 1, m + 1, x, hd, h => by
    unfold tame at h ⊢
    rw [Bool.and_eq_true] at h ⊢
    exact ⟨h.1, List.all_eq_true.2 fun p hp => tame_up d m p (by omega) (List.all_eq_true.1 h.2 p hp)⟩

def nmS (j : Nat) : ByteArray := ⟨#[110, dch j]⟩
theorem nm_valid (j : Nat) (h : j < 10) : Lib.validD (vbl (nmS j)) = true := by
  show Lib.validD [110, dch j] = true
  have hd : (dch j).toNat < 128 := by
    match j, h with
    | 0, _ | 1, _ | 2, _ | 3, _ | 4, _ | 5, _ | 6, _ | 7, _ | 8, _ | 9, _ => decide
  rw [Lib.validD_cons _ _ (by decide), Lib.validD_cons _ _ hd]
  rfl
/-- The names of an object of n parts, the first k of them. -/
def nmL (n : Nat) : Nat → List ByteArray
  | 0 => []
  | k + 1 => nmL n k ++ [nmS (n - k)]
theorem nmL_len (n : Nat) : ∀ k, (nmL n k).length = k
  | 0 => rfl
  | k + 1 => by unfold nmL; rw [List.length_append, nmL_len n k]; rfl
theorem nm_plain (n : Nat) (h : n ≤ 3) : (nmL n n).all plainS = true := by
  match n, h with
  | 0, _ | 1, _ | 2, _ | 3, _ => decide
theorem nm_ok (n : Nat) (h : n ≤ 3) : nmOk (nmL n n) = true := by
  have v1 := nm_valid 1 (by omega)
  have v2 := nm_valid 2 (by omega)
  have v3 := nm_valid 3 (by omega)
  match n, h with
  | 0, _ => rfl
  | 1, _ =>
    show nmGo [] [vbl (nmS 1)] = true
    simp only [nmGo, v1]
    rfl
  | 2, _ =>
    show nmGo [] [vbl (nmS 2), vbl (nmS 1)] = true
    simp only [nmGo, v1, v2]
    decide
  | 3, _ =>
    show nmGo [] [vbl (nmS 3), vbl (nmS 2), vbl (nmS 1)] = true
    simp only [nmGo, v1, v2, v3]
    decide

end Go.Proofs.YtbcenaljaoejkaaDoor

/-
  What refectorylaw02.Made answers where it makes a value of no parts.
-/
namespace Go.Proofs.YtbcenaljaoejkaaDoor
open Go.RowKit

/-- A value by the numbers from place c on, at most d deep: each number makes at most 28 bytes of its text, and a null of no number 4. -/
def MadeIs (c d : Nat) (w : World) (e : Ending) (w' : World) : Prop :=
  ∃ (x : JV) (v : Value) (at' : Nat), e = .returned (.tuple #[v, .int .i64 at']) ∧ (c ≤ at' ∧ at' ≤ 40) ∧ RdD w' (fun b => w.heap.size ≤ b ∧ b < w'.heap.size) d x v ∧ chkAt d x = true ∧ ((txt d x).length ≤ 28 * (at' - c) + 4 ∧ tame d x = true) ∧ Below w.heap.size w w'

theorem made_leaf {c d : Nat} (hd : 1 ≤ d) (k : Int) (S : ByteArray) (at' : Nat) (hat : c ≤ at' ∧ at' ≤ 40 ∧ (k = 1 ∨ at' = c + 1)) (w w' : World) (hb : Below w.heap.size w w') (h7 : k ≠ 7) (h8 : k ≠ 8) (hS : S.size ≤ 11 ∧ plainS S = true ∧ (k = 5 → S.size ≤ 3)) (hc : leafB k (vbl S) = true) :
    MadeIs c d w (.returned (.tuple #[.agg #[.int .i64 k, .string S, .slice none 0 0, .slice none 0 0], .int .i64 at'])) w' := by
  match d, hd with
  | d + 1, _ =>
  refine ⟨.mk k S [] [], _, at', rfl, ⟨hat.1, hat.2.1⟩, ⟨none, 0, none, 0, rfl, ⟨by show S.size ≤ _; omega, Nat.zero_le _, Nat.zero_le _, Nat.le_refl _, Nat.le_refl _⟩, fun h => absurd h (Nat.not_lt_zero _), fun h => absurd h (Nat.not_lt_zero _)⟩, ?_, ⟨?_, ?_⟩, hb⟩
  · show (selfB (.mk k S [] []) && [].all (chkAt d)) = true
    rw [self_leaf (x := .mk k S [] []) h7 h8]
    show (true && true && leafB k (vbl S) && true) = true
    rw [hc]
    rfl
  · have hl : (vbl S).length ≤ 11 := hS.1
    by_cases h1 : k = 1
    · rw [txt_null (x := .mk k S [] []) h1]; show 4 ≤ _; omega
    · by_cases h5 : k = 5
      · rw [txt_str (x := .mk k S [] []) h5]
        show (quoteB (vbl S)).length ≤ _
        have hl3 : (vbl S).length ≤ 3 := hS.2.2 h5
        unfold quoteB
        have := quoteIn_len (vbl S)
        split
        · simp only [List.length_cons, List.length_append, List.length_nil]; omega
        · simp
      · rw [txt_leaf (x := .mk k S [] []) h1 h5 h7 h8]
        show (vbl S).length ≤ _
        omega
  · show (plainS S && [].all plainS && [].all (tame d)) = true
    rw [hS.2.1]
    rfl

theorem leaf2 : leafB 2 [116, 114, 117, 101] = true ∧ leafB 2 [102, 97, 108, 115, 101] = true := by decide
theorem leaf3 : leafB 3 [48] = true ∧ leafB 3 [45, 53] = true ∧ leafB 3 [49, 50] = true ∧ leafB 3 [50, 49, 52, 55, 52, 56, 51, 54, 52, 55] = true ∧ leafB 3 [57, 57, 57, 57, 57, 57, 57, 57, 57, 57, 57] = true := by decide
theorem leaf4 : leafB 4 [49, 46, 53] = true ∧ leafB 4 [48, 101, 49] = true ∧ leafB 4 [45, 48, 46, 50, 53, 69, 45, 51] = true ∧ leafB 4 [49, 101, 43, 57] = true := by decide
theorem leaf5 (l : List UInt8) (h : Lib.validD l = true) : leafB 5 l = true := by
  unfold leafB
  rw [if_neg (by decide), if_neg (by decide), if_neg (by decide), if_neg (by decide), if_pos rfl]
  exact h
theorem leaf1 : leafB 1 [] = true := by decide
theorem val5 : Lib.validD [] = true ∧ Lib.validD [97] = true ∧ Lib.validD [34] = true ∧ Lib.validD [195, 169, 10] = true ∧ Lib.validD [120, 32, 121] = true := by
  refine ⟨rfl, (by rw [Lib.validD_cons _ _ (by decide)]; rfl), ?_, ?_, ?_⟩
  · rw [Lib.validD_cons _ _ (by decide)]; rfl
  · rw [Lib.validD_step _ (by simp)]
    have : Lib.decodeL [195, 169, 10] = (233, 2) := by
      rw [Lib.decodeL_N]
      decide
    rw [this]
    simp only [List.drop_succ_cons, List.drop_zero]
    rw [if_neg (by decide), Lib.validD_cons _ _ (by decide)]
    rfl
  · rw [Lib.validD_cons _ _ (by decide), Lib.validD_cons _ _ (by decide), Lib.validD_cons _ _ (by decide)]; rfl

/-- The numbers that the law reads. -/
def IntsAt (w : World) (B : Nat) (a : Option Addr) (zs : List Int) : Prop := 0 < zs.length → ∃ b off, a = some ⟨b, off, none⟩ ∧ b < B ∧ ∀ i z, zs[i]? = some z → w.cell? ⟨b, off + i, none⟩ = some (.int .i64 z)

set_option maxHeartbeats 1000000 in
set_option maxRecDepth 100000 in
theorem made_end (d : Nat) (hd : 1 ≤ d) (a : Option Addr) (cap : Nat) (zs : List Int) (at0 : Nat) (w : World) (hat : at0 ≤ 40) (h : zs.length ≤ at0) :
    Calls Tryd.prog 11 #[.slice a zs.length cap, .int .i64 at0, .int .i64 d] w (MadeIs at0 d w) := by
  have dd : decide (zs.length ≤ at0) = true := by simpa using h
  go_enter Tryd.func11, Tryd.ntmps11
  go_wp2_with fail
  refine bodyPost_ret (v := .tuple #[.agg #[.int .i64 1, .string ⟨#[]⟩, .slice none 0 0, .slice none 0 0], .int .i64 at0]) (by simp [results, Tryd.results11, go_sem]) rfl ?_
  exact made_leaf hd 1 ⟨#[]⟩ at0 (by omega) w _ ((Below.refl _ w).alloc (Nat.le_refl _) _) (by decide) (by decide) (by decide) leaf1

-- LEAVES
set_option maxHeartbeats 2000000 in
set_option maxRecDepth 100000 in
theorem made_0 (d : Nat) (hd : 1 ≤ d) (a : Option Addr) (cap : Nat) (zs : List Int) (at0 u : Nat) (w : World) (hat : at0 ≤ 39) (h : at0 < zs.length)  (hu : u < 1048576)
    (b off : Nat) (z : Int) (ha : a = some ⟨b, off, none⟩) (hb : b < w.heap.size) (hc : w.cell? ⟨b, off + at0, none⟩ = some (.int .i64 z)) (hp : ∀ W, Calls Tryd.prog 13 #[.int .i64 z, .int .i64 1048576] W fun e w' => e = .returned (.int .i64 (u : Int)) ∧ W = w') (hk : u % 7 = 0) :
    Calls Tryd.prog 11 #[.slice a zs.length cap, .int .i64 at0, .int .i64 d] w (MadeIs at0 d w) := by
  subst ha
  have d0 : decide (zs.length ≤ at0) = false := by simp; omega
  have l1 : b < w.heap.size + 1 := by omega
  have q7 : (u : Int) % 7 = 0 := by omega
  have hm : u / 7 % 2 = 0 ∨ u / 7 % 2 = 1 := by omega
  clear hk
  rcases hm with hm | hm
  · have qm : (u : Int) / 7 % 2 = 0 := by omega
    clear hm
    have ix : ∀ w, (Instr.index 49 (.agg #[.string ⟨#[116, 114, 117, 101]⟩, .string ⟨#[102, 97, 108, 115, 101]⟩]) (.int .i64 0)).run Tryd.prog w = .ok (.string ⟨#[116, 114, 117, 101]⟩) w := fun _ => by kernel_rfl
    go_enter Tryd.func11, Tryd.ntmps11
    go_wp2_with ((go_at_call 13); (with_reducible refine (hp _).mono ?_); rintro e w' ⟨rfl, rfl⟩)
    refine bodyPost_ret (v := .tuple #[.agg #[.int .i64 2, .string ⟨#[116, 114, 117, 101]⟩, .slice none 0 0, .slice none 0 0], .int .i64 ((at0 + 1 : Nat) : Int)]) (by simp [results, Tryd.results11, go_sem]) rfl ?_
    exact made_leaf hd 2 ⟨#[116, 114, 117, 101]⟩ (at0 + 1) (by omega) w _ ((Below.refl _ w).alloc (Nat.le_refl _) _) (by decide) (by decide) (by decide) leaf2.1
  · have qm : (u : Int) / 7 % 2 = 1 := by omega
    clear hm
    have ix : ∀ w, (Instr.index 49 (.agg #[.string ⟨#[116, 114, 117, 101]⟩, .string ⟨#[102, 97, 108, 115, 101]⟩]) (.int .i64 1)).run Tryd.prog w = .ok (.string ⟨#[102, 97, 108, 115, 101]⟩) w := fun _ => by kernel_rfl
    go_enter Tryd.func11, Tryd.ntmps11
    go_wp2_with ((go_at_call 13); (with_reducible refine (hp _).mono ?_); rintro e w' ⟨rfl, rfl⟩)
    refine bodyPost_ret (v := .tuple #[.agg #[.int .i64 2, .string ⟨#[102, 97, 108, 115, 101]⟩, .slice none 0 0, .slice none 0 0], .int .i64 ((at0 + 1 : Nat) : Int)]) (by simp [results, Tryd.results11, go_sem]) rfl ?_
    exact made_leaf hd 2 ⟨#[102, 97, 108, 115, 101]⟩ (at0 + 1) (by omega) w _ ((Below.refl _ w).alloc (Nat.le_refl _) _) (by decide) (by decide) (by decide) leaf2.2
set_option maxHeartbeats 2000000 in
set_option maxRecDepth 100000 in
theorem made_1 (d : Nat) (hd : 1 ≤ d) (a : Option Addr) (cap : Nat) (zs : List Int) (at0 u : Nat) (w : World) (hat : at0 ≤ 39) (h : at0 < zs.length)  (hu : u < 1048576)
    (b off : Nat) (z : Int) (ha : a = some ⟨b, off, none⟩) (hb : b < w.heap.size) (hc : w.cell? ⟨b, off + at0, none⟩ = some (.int .i64 z)) (hp : ∀ W, Calls Tryd.prog 13 #[.int .i64 z, .int .i64 1048576] W fun e w' => e = .returned (.int .i64 (u : Int)) ∧ W = w') (hk : u % 7 = 1) :
    Calls Tryd.prog 11 #[.slice a zs.length cap, .int .i64 at0, .int .i64 d] w (MadeIs at0 d w) := by
  subst ha
  have d0 : decide (zs.length ≤ at0) = false := by simp; omega
  have l1 : b < w.heap.size + 1 := by omega
  have q7 : (u : Int) % 7 = 1 := by omega
  have hm : u / 7 % 5 = 0 ∨ u / 7 % 5 = 1 ∨ u / 7 % 5 = 2 ∨ u / 7 % 5 = 3 ∨ u / 7 % 5 = 4 := by omega
  clear hk
  rcases hm with hm | hm | hm | hm | hm
  · have qm : (u : Int) / 7 % 5 = 0 := by omega
    clear hm
    have ix : ∀ w, (Instr.index 50 (.agg #[.string ⟨#[48]⟩, .string ⟨#[45, 53]⟩, .string ⟨#[49, 50]⟩, .string ⟨#[50, 49, 52, 55, 52, 56, 51, 54, 52, 55]⟩, .string ⟨#[57, 57, 57, 57, 57, 57, 57, 57, 57, 57, 57]⟩]) (.int .i64 0)).run Tryd.prog w = .ok (.string ⟨#[48]⟩) w := fun _ => by kernel_rfl
    go_enter Tryd.func11, Tryd.ntmps11
    go_wp2_with ((go_at_call 13); (with_reducible refine (hp _).mono ?_); rintro e w' ⟨rfl, rfl⟩)
    refine bodyPost_ret (v := .tuple #[.agg #[.int .i64 3, .string ⟨#[48]⟩, .slice none 0 0, .slice none 0 0], .int .i64 ((at0 + 1 : Nat) : Int)]) (by simp [results, Tryd.results11, go_sem]) rfl ?_
    exact made_leaf hd 3 ⟨#[48]⟩ (at0 + 1) (by omega) w _ ((Below.refl _ w).alloc (Nat.le_refl _) _) (by decide) (by decide) (by decide) leaf3.1
  · have qm : (u : Int) / 7 % 5 = 1 := by omega
    clear hm
    have ix : ∀ w, (Instr.index 50 (.agg #[.string ⟨#[48]⟩, .string ⟨#[45, 53]⟩, .string ⟨#[49, 50]⟩, .string ⟨#[50, 49, 52, 55, 52, 56, 51, 54, 52, 55]⟩, .string ⟨#[57, 57, 57, 57, 57, 57, 57, 57, 57, 57, 57]⟩]) (.int .i64 1)).run Tryd.prog w = .ok (.string ⟨#[45, 53]⟩) w := fun _ => by kernel_rfl
    go_enter Tryd.func11, Tryd.ntmps11
    go_wp2_with ((go_at_call 13); (with_reducible refine (hp _).mono ?_); rintro e w' ⟨rfl, rfl⟩)
    refine bodyPost_ret (v := .tuple #[.agg #[.int .i64 3, .string ⟨#[45, 53]⟩, .slice none 0 0, .slice none 0 0], .int .i64 ((at0 + 1 : Nat) : Int)]) (by simp [results, Tryd.results11, go_sem]) rfl ?_
    exact made_leaf hd 3 ⟨#[45, 53]⟩ (at0 + 1) (by omega) w _ ((Below.refl _ w).alloc (Nat.le_refl _) _) (by decide) (by decide) (by decide) leaf3.2.1
  · have qm : (u : Int) / 7 % 5 = 2 := by omega
    clear hm
    have ix : ∀ w, (Instr.index 50 (.agg #[.string ⟨#[48]⟩, .string ⟨#[45, 53]⟩, .string ⟨#[49, 50]⟩, .string ⟨#[50, 49, 52, 55, 52, 56, 51, 54, 52, 55]⟩, .string ⟨#[57, 57, 57, 57, 57, 57, 57, 57, 57, 57, 57]⟩]) (.int .i64 2)).run Tryd.prog w = .ok (.string ⟨#[49, 50]⟩) w := fun _ => by kernel_rfl
    go_enter Tryd.func11, Tryd.ntmps11
    go_wp2_with ((go_at_call 13); (with_reducible refine (hp _).mono ?_); rintro e w' ⟨rfl, rfl⟩)
    refine bodyPost_ret (v := .tuple #[.agg #[.int .i64 3, .string ⟨#[49, 50]⟩, .slice none 0 0, .slice none 0 0], .int .i64 ((at0 + 1 : Nat) : Int)]) (by simp [results, Tryd.results11, go_sem]) rfl ?_
    exact made_leaf hd 3 ⟨#[49, 50]⟩ (at0 + 1) (by omega) w _ ((Below.refl _ w).alloc (Nat.le_refl _) _) (by decide) (by decide) (by decide) leaf3.2.2.1
  · have qm : (u : Int) / 7 % 5 = 3 := by omega
    clear hm
    have ix : ∀ w, (Instr.index 50 (.agg #[.string ⟨#[48]⟩, .string ⟨#[45, 53]⟩, .string ⟨#[49, 50]⟩, .string ⟨#[50, 49, 52, 55, 52, 56, 51, 54, 52, 55]⟩, .string ⟨#[57, 57, 57, 57, 57, 57, 57, 57, 57, 57, 57]⟩]) (.int .i64 3)).run Tryd.prog w = .ok (.string ⟨#[50, 49, 52, 55, 52, 56, 51, 54, 52, 55]⟩) w := fun _ => by kernel_rfl
    go_enter Tryd.func11, Tryd.ntmps11
    go_wp2_with ((go_at_call 13); (with_reducible refine (hp _).mono ?_); rintro e w' ⟨rfl, rfl⟩)
    refine bodyPost_ret (v := .tuple #[.agg #[.int .i64 3, .string ⟨#[50, 49, 52, 55, 52, 56, 51, 54, 52, 55]⟩, .slice none 0 0, .slice none 0 0], .int .i64 ((at0 + 1 : Nat) : Int)]) (by simp [results, Tryd.results11, go_sem]) rfl ?_
    exact made_leaf hd 3 ⟨#[50, 49, 52, 55, 52, 56, 51, 54, 52, 55]⟩ (at0 + 1) (by omega) w _ ((Below.refl _ w).alloc (Nat.le_refl _) _) (by decide) (by decide) (by decide) leaf3.2.2.2.1
  · have qm : (u : Int) / 7 % 5 = 4 := by omega
    clear hm
    have ix : ∀ w, (Instr.index 50 (.agg #[.string ⟨#[48]⟩, .string ⟨#[45, 53]⟩, .string ⟨#[49, 50]⟩, .string ⟨#[50, 49, 52, 55, 52, 56, 51, 54, 52, 55]⟩, .string ⟨#[57, 57, 57, 57, 57, 57, 57, 57, 57, 57, 57]⟩]) (.int .i64 4)).run Tryd.prog w = .ok (.string ⟨#[57, 57, 57, 57, 57, 57, 57, 57, 57, 57, 57]⟩) w := fun _ => by kernel_rfl
    go_enter Tryd.func11, Tryd.ntmps11
    go_wp2_with ((go_at_call 13); (with_reducible refine (hp _).mono ?_); rintro e w' ⟨rfl, rfl⟩)
    refine bodyPost_ret (v := .tuple #[.agg #[.int .i64 3, .string ⟨#[57, 57, 57, 57, 57, 57, 57, 57, 57, 57, 57]⟩, .slice none 0 0, .slice none 0 0], .int .i64 ((at0 + 1 : Nat) : Int)]) (by simp [results, Tryd.results11, go_sem]) rfl ?_
    exact made_leaf hd 3 ⟨#[57, 57, 57, 57, 57, 57, 57, 57, 57, 57, 57]⟩ (at0 + 1) (by omega) w _ ((Below.refl _ w).alloc (Nat.le_refl _) _) (by decide) (by decide) (by decide) leaf3.2.2.2.2
set_option maxHeartbeats 2000000 in
set_option maxRecDepth 100000 in
theorem made_2 (d : Nat) (hd : 1 ≤ d) (a : Option Addr) (cap : Nat) (zs : List Int) (at0 u : Nat) (w : World) (hat : at0 ≤ 39) (h : at0 < zs.length)  (hu : u < 1048576)
    (b off : Nat) (z : Int) (ha : a = some ⟨b, off, none⟩) (hb : b < w.heap.size) (hc : w.cell? ⟨b, off + at0, none⟩ = some (.int .i64 z)) (hp : ∀ W, Calls Tryd.prog 13 #[.int .i64 z, .int .i64 1048576] W fun e w' => e = .returned (.int .i64 (u : Int)) ∧ W = w') (hk : u % 7 = 2) :
    Calls Tryd.prog 11 #[.slice a zs.length cap, .int .i64 at0, .int .i64 d] w (MadeIs at0 d w) := by
  subst ha
  have d0 : decide (zs.length ≤ at0) = false := by simp; omega
  have l1 : b < w.heap.size + 1 := by omega
  have q7 : (u : Int) % 7 = 2 := by omega
  have hm : u / 7 % 4 = 0 ∨ u / 7 % 4 = 1 ∨ u / 7 % 4 = 2 ∨ u / 7 % 4 = 3 := by omega
  clear hk
  rcases hm with hm | hm | hm | hm
  · have qm : (u : Int) / 7 % 4 = 0 := by omega
    clear hm
    have ix : ∀ w, (Instr.index 36 (.agg #[.string ⟨#[49, 46, 53]⟩, .string ⟨#[48, 101, 49]⟩, .string ⟨#[45, 48, 46, 50, 53, 69, 45, 51]⟩, .string ⟨#[49, 101, 43, 57]⟩]) (.int .i64 0)).run Tryd.prog w = .ok (.string ⟨#[49, 46, 53]⟩) w := fun _ => by kernel_rfl
    go_enter Tryd.func11, Tryd.ntmps11
    go_wp2_with ((go_at_call 13); (with_reducible refine (hp _).mono ?_); rintro e w' ⟨rfl, rfl⟩)
    refine bodyPost_ret (v := .tuple #[.agg #[.int .i64 4, .string ⟨#[49, 46, 53]⟩, .slice none 0 0, .slice none 0 0], .int .i64 ((at0 + 1 : Nat) : Int)]) (by simp [results, Tryd.results11, go_sem]) rfl ?_
    exact made_leaf hd 4 ⟨#[49, 46, 53]⟩ (at0 + 1) (by omega) w _ ((Below.refl _ w).alloc (Nat.le_refl _) _) (by decide) (by decide) (by decide) leaf4.1
  · have qm : (u : Int) / 7 % 4 = 1 := by omega
    clear hm
    have ix : ∀ w, (Instr.index 36 (.agg #[.string ⟨#[49, 46, 53]⟩, .string ⟨#[48, 101, 49]⟩, .string ⟨#[45, 48, 46, 50, 53, 69, 45, 51]⟩, .string ⟨#[49, 101, 43, 57]⟩]) (.int .i64 1)).run Tryd.prog w = .ok (.string ⟨#[48, 101, 49]⟩) w := fun _ => by kernel_rfl
    go_enter Tryd.func11, Tryd.ntmps11
    go_wp2_with ((go_at_call 13); (with_reducible refine (hp _).mono ?_); rintro e w' ⟨rfl, rfl⟩)
    refine bodyPost_ret (v := .tuple #[.agg #[.int .i64 4, .string ⟨#[48, 101, 49]⟩, .slice none 0 0, .slice none 0 0], .int .i64 ((at0 + 1 : Nat) : Int)]) (by simp [results, Tryd.results11, go_sem]) rfl ?_
    exact made_leaf hd 4 ⟨#[48, 101, 49]⟩ (at0 + 1) (by omega) w _ ((Below.refl _ w).alloc (Nat.le_refl _) _) (by decide) (by decide) (by decide) leaf4.2.1
  · have qm : (u : Int) / 7 % 4 = 2 := by omega
    clear hm
    have ix : ∀ w, (Instr.index 36 (.agg #[.string ⟨#[49, 46, 53]⟩, .string ⟨#[48, 101, 49]⟩, .string ⟨#[45, 48, 46, 50, 53, 69, 45, 51]⟩, .string ⟨#[49, 101, 43, 57]⟩]) (.int .i64 2)).run Tryd.prog w = .ok (.string ⟨#[45, 48, 46, 50, 53, 69, 45, 51]⟩) w := fun _ => by kernel_rfl
    go_enter Tryd.func11, Tryd.ntmps11
    go_wp2_with ((go_at_call 13); (with_reducible refine (hp _).mono ?_); rintro e w' ⟨rfl, rfl⟩)
    refine bodyPost_ret (v := .tuple #[.agg #[.int .i64 4, .string ⟨#[45, 48, 46, 50, 53, 69, 45, 51]⟩, .slice none 0 0, .slice none 0 0], .int .i64 ((at0 + 1 : Nat) : Int)]) (by simp [results, Tryd.results11, go_sem]) rfl ?_
    exact made_leaf hd 4 ⟨#[45, 48, 46, 50, 53, 69, 45, 51]⟩ (at0 + 1) (by omega) w _ ((Below.refl _ w).alloc (Nat.le_refl _) _) (by decide) (by decide) (by decide) leaf4.2.2.1
  · have qm : (u : Int) / 7 % 4 = 3 := by omega
    clear hm
    have ix : ∀ w, (Instr.index 36 (.agg #[.string ⟨#[49, 46, 53]⟩, .string ⟨#[48, 101, 49]⟩, .string ⟨#[45, 48, 46, 50, 53, 69, 45, 51]⟩, .string ⟨#[49, 101, 43, 57]⟩]) (.int .i64 3)).run Tryd.prog w = .ok (.string ⟨#[49, 101, 43, 57]⟩) w := fun _ => by kernel_rfl
    go_enter Tryd.func11, Tryd.ntmps11
    go_wp2_with ((go_at_call 13); (with_reducible refine (hp _).mono ?_); rintro e w' ⟨rfl, rfl⟩)
    refine bodyPost_ret (v := .tuple #[.agg #[.int .i64 4, .string ⟨#[49, 101, 43, 57]⟩, .slice none 0 0, .slice none 0 0], .int .i64 ((at0 + 1 : Nat) : Int)]) (by simp [results, Tryd.results11, go_sem]) rfl ?_
    exact made_leaf hd 4 ⟨#[49, 101, 43, 57]⟩ (at0 + 1) (by omega) w _ ((Below.refl _ w).alloc (Nat.le_refl _) _) (by decide) (by decide) (by decide) leaf4.2.2.2
set_option maxHeartbeats 2000000 in
set_option maxRecDepth 100000 in
theorem made_3 (d : Nat) (hd : 1 ≤ d) (a : Option Addr) (cap : Nat) (zs : List Int) (at0 u : Nat) (w : World) (hat : at0 ≤ 39) (h : at0 < zs.length)  (hu : u < 1048576)
    (b off : Nat) (z : Int) (ha : a = some ⟨b, off, none⟩) (hb : b < w.heap.size) (hc : w.cell? ⟨b, off + at0, none⟩ = some (.int .i64 z)) (hp : ∀ W, Calls Tryd.prog 13 #[.int .i64 z, .int .i64 1048576] W fun e w' => e = .returned (.int .i64 (u : Int)) ∧ W = w') (hk : u % 7 = 3) :
    Calls Tryd.prog 11 #[.slice a zs.length cap, .int .i64 at0, .int .i64 d] w (MadeIs at0 d w) := by
  subst ha
  have d0 : decide (zs.length ≤ at0) = false := by simp; omega
  have l1 : b < w.heap.size + 1 := by omega
  have q7 : (u : Int) % 7 = 3 := by omega
  have hm : u / 7 % 5 = 0 ∨ u / 7 % 5 = 1 ∨ u / 7 % 5 = 2 ∨ u / 7 % 5 = 3 ∨ u / 7 % 5 = 4 := by omega
  clear hk
  rcases hm with hm | hm | hm | hm | hm
  · have qm : (u : Int) / 7 % 5 = 0 := by omega
    clear hm
    have ix : ∀ w, (Instr.index 50 (.agg #[.string ⟨#[]⟩, .string ⟨#[97]⟩, .string ⟨#[34]⟩, .string ⟨#[195, 169, 10]⟩, .string ⟨#[120, 32, 121]⟩]) (.int .i64 0)).run Tryd.prog w = .ok (.string ⟨#[]⟩) w := fun _ => by kernel_rfl
    go_enter Tryd.func11, Tryd.ntmps11
    go_wp2_with ((go_at_call 13); (with_reducible refine (hp _).mono ?_); rintro e w' ⟨rfl, rfl⟩)
    refine bodyPost_ret (v := .tuple #[.agg #[.int .i64 5, .string ⟨#[]⟩, .slice none 0 0, .slice none 0 0], .int .i64 ((at0 + 1 : Nat) : Int)]) (by simp [results, Tryd.results11, go_sem]) rfl ?_
    exact made_leaf hd 5 ⟨#[]⟩ (at0 + 1) (by omega) w _ ((Below.refl _ w).alloc (Nat.le_refl _) _) (by decide) (by decide) (by decide) (leaf5 _ val5.1)
  · have qm : (u : Int) / 7 % 5 = 1 := by omega
    clear hm
    have ix : ∀ w, (Instr.index 50 (.agg #[.string ⟨#[]⟩, .string ⟨#[97]⟩, .string ⟨#[34]⟩, .string ⟨#[195, 169, 10]⟩, .string ⟨#[120, 32, 121]⟩]) (.int .i64 1)).run Tryd.prog w = .ok (.string ⟨#[97]⟩) w := fun _ => by kernel_rfl
    go_enter Tryd.func11, Tryd.ntmps11
    go_wp2_with ((go_at_call 13); (with_reducible refine (hp _).mono ?_); rintro e w' ⟨rfl, rfl⟩)
    refine bodyPost_ret (v := .tuple #[.agg #[.int .i64 5, .string ⟨#[97]⟩, .slice none 0 0, .slice none 0 0], .int .i64 ((at0 + 1 : Nat) : Int)]) (by simp [results, Tryd.results11, go_sem]) rfl ?_
    exact made_leaf hd 5 ⟨#[97]⟩ (at0 + 1) (by omega) w _ ((Below.refl _ w).alloc (Nat.le_refl _) _) (by decide) (by decide) (by decide) (leaf5 _ val5.2.1)
  · have qm : (u : Int) / 7 % 5 = 2 := by omega
    clear hm
    have ix : ∀ w, (Instr.index 50 (.agg #[.string ⟨#[]⟩, .string ⟨#[97]⟩, .string ⟨#[34]⟩, .string ⟨#[195, 169, 10]⟩, .string ⟨#[120, 32, 121]⟩]) (.int .i64 2)).run Tryd.prog w = .ok (.string ⟨#[34]⟩) w := fun _ => by kernel_rfl
    go_enter Tryd.func11, Tryd.ntmps11
    go_wp2_with ((go_at_call 13); (with_reducible refine (hp _).mono ?_); rintro e w' ⟨rfl, rfl⟩)
    refine bodyPost_ret (v := .tuple #[.agg #[.int .i64 5, .string ⟨#[34]⟩, .slice none 0 0, .slice none 0 0], .int .i64 ((at0 + 1 : Nat) : Int)]) (by simp [results, Tryd.results11, go_sem]) rfl ?_
    exact made_leaf hd 5 ⟨#[34]⟩ (at0 + 1) (by omega) w _ ((Below.refl _ w).alloc (Nat.le_refl _) _) (by decide) (by decide) (by decide) (leaf5 _ val5.2.2.1)
  · have qm : (u : Int) / 7 % 5 = 3 := by omega
    clear hm
    have ix : ∀ w, (Instr.index 50 (.agg #[.string ⟨#[]⟩, .string ⟨#[97]⟩, .string ⟨#[34]⟩, .string ⟨#[195, 169, 10]⟩, .string ⟨#[120, 32, 121]⟩]) (.int .i64 3)).run Tryd.prog w = .ok (.string ⟨#[195, 169, 10]⟩) w := fun _ => by kernel_rfl
    go_enter Tryd.func11, Tryd.ntmps11
    go_wp2_with ((go_at_call 13); (with_reducible refine (hp _).mono ?_); rintro e w' ⟨rfl, rfl⟩)
    refine bodyPost_ret (v := .tuple #[.agg #[.int .i64 5, .string ⟨#[195, 169, 10]⟩, .slice none 0 0, .slice none 0 0], .int .i64 ((at0 + 1 : Nat) : Int)]) (by simp [results, Tryd.results11, go_sem]) rfl ?_
    exact made_leaf hd 5 ⟨#[195, 169, 10]⟩ (at0 + 1) (by omega) w _ ((Below.refl _ w).alloc (Nat.le_refl _) _) (by decide) (by decide) (by decide) (leaf5 _ val5.2.2.2.1)
  · have qm : (u : Int) / 7 % 5 = 4 := by omega
    clear hm
    have ix : ∀ w, (Instr.index 50 (.agg #[.string ⟨#[]⟩, .string ⟨#[97]⟩, .string ⟨#[34]⟩, .string ⟨#[195, 169, 10]⟩, .string ⟨#[120, 32, 121]⟩]) (.int .i64 4)).run Tryd.prog w = .ok (.string ⟨#[120, 32, 121]⟩) w := fun _ => by kernel_rfl
    go_enter Tryd.func11, Tryd.ntmps11
    go_wp2_with ((go_at_call 13); (with_reducible refine (hp _).mono ?_); rintro e w' ⟨rfl, rfl⟩)
    refine bodyPost_ret (v := .tuple #[.agg #[.int .i64 5, .string ⟨#[120, 32, 121]⟩, .slice none 0 0, .slice none 0 0], .int .i64 ((at0 + 1 : Nat) : Int)]) (by simp [results, Tryd.results11, go_sem]) rfl ?_
    exact made_leaf hd 5 ⟨#[120, 32, 121]⟩ (at0 + 1) (by omega) w _ ((Below.refl _ w).alloc (Nat.le_refl _) _) (by decide) (by decide) (by decide) (leaf5 _ val5.2.2.2.2)
set_option maxHeartbeats 2000000 in
set_option maxRecDepth 100000 in
theorem made_hi (d : Nat) (hd : 1 ≤ d) (a : Option Addr) (cap : Nat) (zs : List Int) (at0 u : Nat) (w : World) (hat : at0 ≤ 39) (h : at0 < zs.length)  (hu : u < 1048576)
    (b off : Nat) (z : Int) (ha : a = some ⟨b, off, none⟩) (hb : b < w.heap.size) (hc : w.cell? ⟨b, off + at0, none⟩ = some (.int .i64 z)) (hp : ∀ W, Calls Tryd.prog 13 #[.int .i64 z, .int .i64 1048576] W fun e w' => e = .returned (.int .i64 (u : Int)) ∧ W = w') (hk : 4 < u % 7) :
    Calls Tryd.prog 11 #[.slice a zs.length cap, .int .i64 at0, .int .i64 d] w (MadeIs at0 d w) := by
  subst ha
  have d0 : decide (zs.length ≤ at0) = false := by simp; omega
  have l1 : b < w.heap.size + 1 := by omega
  have q0 : ((u : Int) % 7 == 0) = false := by simp; omega
  have q1 : ((u : Int) % 7 == 1) = false := by simp; omega
  have q2 : ((u : Int) % 7 == 2) = false := by simp; omega
  have q3 : ((u : Int) % 7 == 3) = false := by simp; omega
  have q4 : decide ((4 : Int) < (u : Int) % 7) = true := by simp; omega
  clear hk
  go_enter Tryd.func11, Tryd.ntmps11
  go_wp2_with ((go_at_call 13); (with_reducible refine (hp _).mono ?_); rintro e w' ⟨rfl, rfl⟩)
  refine bodyPost_ret (v := .tuple #[.agg #[.int .i64 1, .string ⟨#[]⟩, .slice none 0 0, .slice none 0 0], .int .i64 ((at0 + 1 : Nat) : Int)]) (by simp [results, Tryd.results11, go_sem]) rfl ?_
  exact made_leaf hd 1 ⟨#[]⟩ (at0 + 1) (by omega) w _ ((Below.refl _ w).alloc (Nat.le_refl _) _) (by decide) (by decide) (by decide) leaf1
set_option maxHeartbeats 2000000 in
set_option maxRecDepth 100000 in
theorem made_flat (d : Nat) (hd : 1 ≤ d) (a : Option Addr) (cap : Nat) (zs : List Int) (at0 u : Nat) (w : World) (hat : at0 ≤ 39) (h : at0 < zs.length)  (hu : u < 1048576)
    (b off : Nat) (z : Int) (ha : a = some ⟨b, off, none⟩) (hb : b < w.heap.size) (hc : w.cell? ⟨b, off + at0, none⟩ = some (.int .i64 z)) (hp : ∀ W, Calls Tryd.prog 13 #[.int .i64 z, .int .i64 1048576] W fun e w' => e = .returned (.int .i64 (u : Int)) ∧ W = w') (hk : u % 7 = 4) (h1 : d = 1) :
    Calls Tryd.prog 11 #[.slice a zs.length cap, .int .i64 at0, .int .i64 d] w (MadeIs at0 d w) := by
  subst ha
  have d0 : decide (zs.length ≤ at0) = false := by simp; omega
  have l1 : b < w.heap.size + 1 := by omega
  have q7 : (u : Int) % 7 = 4 := by omega
  subst h1
  clear hk
  go_enter Tryd.func11, Tryd.ntmps11
  go_wp2_with ((go_at_call 13); (with_reducible refine (hp _).mono ?_); rintro e w' ⟨rfl, rfl⟩)
  refine bodyPost_ret (v := .tuple #[.agg #[.int .i64 1, .string ⟨#[]⟩, .slice none 0 0, .slice none 0 0], .int .i64 ((at0 + 1 : Nat) : Int)]) (by simp [results, Tryd.results11, go_sem]) rfl ?_
  exact made_leaf hd 1 ⟨#[]⟩ (at0 + 1) (by omega) w _ ((Below.refl _ w).alloc (Nat.le_refl _) _) (by decide) (by decide) (by decide) leaf1

end Go.Proofs.YtbcenaljaoejkaaDoor

/-
  The state of refectorylaw02.Made while it makes a list or an object: two rows of its own that grow, and what was read stays.
-/
namespace Go.Proofs.YtbcenaljaoejkaaDoor
open Go.RowKit

def MD (w W : World) (vN vL : Value) (b : Nat) : Prop := w.heap.size + 2 ≤ b ∧ b < W.heap.size ∧ vN.ownBlock ≠ some b ∧ vL.ownBlock ≠ some b
def RowsM (W : World) (D : Nat → Prop) (dd : Nat) (cs : List Value) (xs : List JV) : Prop :=
  ∀ i x, xs[i]? = some x → ∃ c0 c1 c2 c3, cs[i * 4]? = some c0 ∧ cs[i * 4 + 1]? = some c1 ∧ cs[i * 4 + 2]? = some c2 ∧ cs[i * 4 + 3]? = some c3 ∧ RdD W D dd x (.agg #[c0, c1, c2, c3])

structure MSt (w : World) (kk : Int) (dd : Nat) (ns : List ByteArray) (xs : List JV) (cs : List Value) (vN vL : Value) (W : World) : Prop where
  below : Below w.heap.size w W
  sz : w.heap.size + 2 ≤ W.heap.size
  b0 : W.cell? ⟨w.heap.size + 1, 0, none⟩ = some (.int .i64 kk)
  b1 : W.cell? ⟨w.heap.size + 1, 1, none⟩ = some (.string ⟨#[]⟩)
  b2 : W.cell? ⟨w.heap.size + 1, 2, none⟩ = some vN
  b3 : W.cell? ⟨w.heap.size + 1, 3, none⟩ = some vL
  bf : ∀ j, W.frozen? ⟨w.heap.size + 1, j, none⟩ = false
  r0 : W.cell? ⟨w.heap.size, 0, none⟩ = some (.int .i64 0)
  r1 : W.cell? ⟨w.heap.size, 1, none⟩ = some (.string ⟨#[]⟩)
  r2 : W.cell? ⟨w.heap.size, 2, none⟩ = some (.slice none 0 0)
  r3 : W.cell? ⟨w.heap.size, 3, none⟩ = some (.slice none 0 0)
  rf : ∀ j, W.frozen? ⟨w.heap.size, j, none⟩ = false
  oN : W.ownsRow (w.heap.size + 2) 9 1 vN ns.length (ns.map Value.string)
  oL : W.ownsRow (w.heap.size + 2) 26 4 vL xs.length cs
  ne : ∀ g, vN.ownBlock = some g → vL.ownBlock ≠ some g
  rd : RowsM W (MD w W vN vL) dd cs xs
  ck : ∀ x ∈ xs, chkAt dd x = true ∧ tame dd x = true

theorem RowsM.step {w w' : World} {D D' : Nat → Prop} {dd : Nat} {cs : List Value} {xs : List JV} (h : RowsM w D dd cs xs) (hD : ∀ b, D b → D' b) (hk : ∀ b o, D b → w'.cell? ⟨b, o, none⟩ = w.cell? ⟨b, o, none⟩) : RowsM w' D' dd cs xs := fun i x hx => by
  obtain ⟨c0, c1, c2, c3, h0, h1, h2, h3, hR⟩ := h i x hx
  exact ⟨c0, c1, c2, c3, h0, h1, h2, h3, RdD.step hD hk hR⟩

/-- Nothing older has changed. -/
theorem MSt.grow {w W W' : World} {kk : Int} {dd : Nat} {ns : List ByteArray} {xs : List JV} {cs : List Value} {vN vL : Value} (h : MSt w kk dd ns xs cs vN vL W) (hb : Below W.heap.size W W') : MSt w kk dd ns xs cs vN vL W' := by
  have hs := h.sz
  have hz := hb.size
  have c : ∀ b o, b < W.heap.size → W'.cell? ⟨b, o, none⟩ = W.cell? ⟨b, o, none⟩ := fun b o hl => hb.cell (p := ⟨b, o, none⟩) hl
  have f : ∀ b o, b < W.heap.size → W'.frozen? ⟨b, o, none⟩ = W.frozen? ⟨b, o, none⟩ := fun b o hl => hb.frozen (p := ⟨b, o, none⟩) hl
  have hg : W.grownBy W' none := ⟨hb.os, hb.tape, hb.output, hb.size, fun j hj _ => hb.block j hj⟩
  exact ⟨h.below.trans (hb.mono (by omega)), by omega, (c _ _ (by omega)).trans h.b0, (c _ _ (by omega)).trans h.b1, (c _ _ (by omega)).trans h.b2, (c _ _ (by omega)).trans h.b3, fun j => (f _ _ (by omega)).trans (h.bf j),
    (c _ _ (by omega)).trans h.r0, (c _ _ (by omega)).trans h.r1, (c _ _ (by omega)).trans h.r2, (c _ _ (by omega)).trans h.r3, fun j => (f _ _ (by omega)).trans (h.rf j),
    h.oN.kept hg (by cases hv : vN.ownBlock <;> simp), h.oL.kept hg (by cases hv : vL.ownBlock <;> simp), h.ne,
    h.rd.step (fun b hd => ⟨hd.1, Nat.lt_of_lt_of_le hd.2.1 hz, hd.2.2⟩) (fun b o hd => c b o hd.2.1), h.ck⟩

/-- What is made anew can be read through blocks that are no row's. -/
theorem MSt.fresh {w W W' : World} {kk : Int} {dd : Nat} {ns : List ByteArray} {xs : List JV} {cs : List Value} {vN vL : Value} (h : MSt w kk dd ns xs cs vN vL W) (b : Nat) (hb : W.heap.size ≤ b ∧ b < W'.heap.size) : MD w W' vN vL b := by
  refine ⟨Nat.le_trans h.sz hb.1, hb.2, fun e => ?_, fun e => ?_⟩
  · have := (h.oN.lt b e).2; omega
  · have := (h.oL.lt b e).2; omega

/-- One more in the list. -/
theorem MSt.list {w W W' : World} {kk : Int} {dd : Nat} {ns : List ByteArray} {xs : List JV} {cs : List Value} {vN vL vL' : Value} {x : JV} {c0 c1 c2 c3 : Value} (h : MSt w kk dd ns xs cs vN vL W)
    (hx : RdD W (MD w W vN vL) dd x (.agg #[c0, c1, c2, c3])) (hck : chkAt dd x = true ∧ tame dd x = true) (hown : W'.ownsRow (w.heap.size + 2) 26 4 vL' (xs.length + 1) (cs ++ [c0, c1, c2, c3])) (hg : W.grownBy W' vL.ownBlock)
    (hlie : vL'.ownBlock = vL.ownBlock ∨ vL'.ownBlock = some W.heap.size) : MSt w kk dd ns (xs ++ [x]) (cs ++ [c0, c1, c2, c3]) vN vL' (W'.setCell ⟨w.heap.size + 1, 3, none⟩ vL') := by
  have hs := h.sz
  have hz := hg.size
  have hLlt : ∀ g, vL.ownBlock = some g → w.heap.size + 2 ≤ g := fun g e => (h.oL.lt g e).1
  have hL'lt : ∀ g, vL'.ownBlock = some g → w.heap.size + 2 ≤ g := fun g e => (hown.lt g e).1
  have hNlt : ∀ g, vN.ownBlock = some g → w.heap.size + 2 ≤ g ∧ g < W.heap.size := fun g e => h.oN.lt g e
  have hblk : ∀ b, b < W.heap.size → vL.ownBlock ≠ some b → W'.heap[b]? = W.heap[b]? := fun b hb hn => hg.block b hb (by first | exact hn | exact fun e => hn e.symm)
  have hb : ∀ b o, b < W.heap.size → vL.ownBlock ≠ some b → b ≠ w.heap.size + 1 → (W'.setCell ⟨w.heap.size + 1, 3, none⟩ vL').cell? ⟨b, o, none⟩ = W.cell? ⟨b, o, none⟩ := fun b o hb hn hne => by
    rw [World.cell?_setCell_other _ _ _ _ (by intro e; have := congrArg Addr.block e; simp at this; omega)]
    exact World.cell?_of_block (a := ⟨b, o, none⟩) (hblk b hb hn)
  have hbox : ∀ o, W'.cell? ⟨w.heap.size + 1, o, none⟩ = W.cell? ⟨w.heap.size + 1, o, none⟩ := fun o => World.cell?_of_block (a := ⟨w.heap.size + 1, o, none⟩) (hblk (w.heap.size + 1) (by omega) (fun e => by have := hLlt _ e; omega))
  have hbo : ∀ o, o ≠ 3 → (W'.setCell ⟨w.heap.size + 1, 3, none⟩ vL').cell? ⟨w.heap.size + 1, o, none⟩ = W.cell? ⟨w.heap.size + 1, o, none⟩ := fun o ho => by
    rw [World.cell?_setCell_other _ _ _ _ (by intro e; injection e with _ e; omega)]
    exact hbox o
  have hfz : ∀ b o, b < W.heap.size → vL.ownBlock ≠ some b → (W'.setCell ⟨w.heap.size + 1, 3, none⟩ vL').frozen? ⟨b, o, none⟩ = W.frozen? ⟨b, o, none⟩ := fun b o hb hn => by
    rw [World.frozen?_setCell]
    exact World.frozen?_of_block (a := ⟨b, o, none⟩) (hblk b hb hn)
  have hsz : (W'.setCell ⟨w.heap.size + 1, 3, none⟩ vL').heap.size = W'.heap.size := by simp [World.setCell]
  have hr : ∀ o, (W'.setCell ⟨w.heap.size + 1, 3, none⟩ vL').cell? ⟨w.heap.size, o, none⟩ = W.cell? ⟨w.heap.size, o, none⟩ := fun o => hb _ o (by omega) (fun e => by have := hLlt _ e; omega) (by omega)
  have hD : ∀ b, MD w W vN vL b → MD w (W'.setCell ⟨w.heap.size + 1, 3, none⟩ vL') vN vL' b := fun b hd => ⟨hd.1, by rw [hsz]; have := hd.2.1; omega, hd.2.2.1, by
    rcases hlie with e | e
    · rw [e]; exact hd.2.2.2
    · rw [e]; intro e2; have := Option.some.inj e2; have := hd.2.1; omega⟩
  have hk : ∀ b o, MD w W vN vL b → (W'.setCell ⟨w.heap.size + 1, 3, none⟩ vL').cell? ⟨b, o, none⟩ = W.cell? ⟨b, o, none⟩ := fun b o hd => hb b o hd.2.1 hd.2.2.2 (by have := hd.1; omega)
  have hcl : cs.length = xs.length * 4 := h.oL.1
  refine ⟨?_, by rw [hsz]; omega, (hbo 0 (by decide)).trans h.b0, (hbo 1 (by decide)).trans h.b1, (hbo 2 (by decide)).trans h.b2, World.cell?_setCell_same _ _ _ ((hbox 3).trans h.b3), fun j => (hfz _ j (by omega) (fun e => by have := hLlt _ e; omega)).trans (h.bf j),
    (hr 0).trans h.r0, (hr 1).trans h.r1, (hr 2).trans h.r2, (hr 3).trans h.r3, fun j => (hfz _ j (by omega) (fun e => by have := hLlt _ e; omega)).trans (h.rf j), ?_, ?_, ?_, ?_, ?_⟩
  · refine (h.below.trans (c := W') ⟨hg.os, hg.tape, hg.output, by omega, fun k hk => hblk k (by omega) (fun e => by have := hLlt _ e; omega)⟩).setCell (p := ⟨w.heap.size + 1, 3, none⟩) (by show _ ≤ w.heap.size + 1; omega) _
  · refine ownsRow_setCell_other (h.oN.kept hg ?_) ?_ _
    · cases hv : vN.ownBlock with
      | none => exact .inl rfl
      | some g => exact .inr (fun e => h.ne g hv e.symm)
    · intro e; have h1 : w.heap.size + 2 ≤ w.heap.size + 1 ∧ _ := hNlt _ e; omega
  · rw [List.length_append, List.length_singleton]
    exact ownsRow_setCell_other hown (by intro e; have h1 : w.heap.size + 2 ≤ w.heap.size + 1 := hL'lt _ e; omega) _
  · intro g e
    rcases hlie with e2 | e2
    · rw [e2]; exact h.ne g e
    · rw [e2]; intro e3; have := Option.some.inj e3; have := hNlt _ e; omega
  · intro i y hy
    by_cases hi : i < xs.length
    · rw [List.getElem?_append_left hi] at hy
      obtain ⟨d0, d1, d2, d3, h0, h1, h2, h3, hR⟩ := h.rd i y hy
      exact ⟨d0, d1, d2, d3, by rw [List.getElem?_append_left (by omega)]; exact h0, by rw [List.getElem?_append_left (by omega)]; exact h1, by rw [List.getElem?_append_left (by omega)]; exact h2, by rw [List.getElem?_append_left (by omega)]; exact h3, RdD.step hD hk hR⟩
    · have hlt := (List.getElem?_eq_some_iff.1 hy).1
      rw [List.length_append, List.length_singleton] at hlt
      obtain rfl : i = xs.length := by omega
      rw [List.getElem?_append_right (Nat.le_refl _), Nat.sub_self] at hy
      simp at hy
      subst hy
      refine ⟨c0, c1, c2, c3, ?_, ?_, ?_, ?_, RdD.step hD hk hx⟩ <;> rw [List.getElem?_append_right (by omega), hcl]
      · simp
      · rw [Nat.add_sub_cancel_left]; rfl
      · rw [Nat.add_sub_cancel_left]; rfl
      · rw [Nat.add_sub_cancel_left]; rfl
  · intro y hy
    rcases List.mem_append.1 hy with hy | hy
    · exact h.ck y hy
    · simp at hy; subst hy; exact hck

/-- One more name. -/
theorem MSt.name {w W W' : World} {kk : Int} {dd : Nat} {ns : List ByteArray} {xs : List JV} {cs : List Value} {vN vL vN' : Value} {s : ByteArray} (h : MSt w kk dd ns xs cs vN vL W)
    (hown : W'.ownsRow (w.heap.size + 2) 9 1 vN' (ns.length + 1) (ns.map Value.string ++ [.string s])) (hg : W.grownBy W' vN.ownBlock)
    (hlie : vN'.ownBlock = vN.ownBlock ∨ vN'.ownBlock = some W.heap.size) : MSt w kk dd (ns ++ [s]) xs cs vN' vL (W'.setCell ⟨w.heap.size + 1, 2, none⟩ vN') := by
  have hs := h.sz
  have hz := hg.size
  have hLlt : ∀ g, vN.ownBlock = some g → w.heap.size + 2 ≤ g := fun g e => (h.oN.lt g e).1
  have hL'lt : ∀ g, vN'.ownBlock = some g → w.heap.size + 2 ≤ g := fun g e => (hown.lt g e).1
  have hNlt : ∀ g, vL.ownBlock = some g → w.heap.size + 2 ≤ g ∧ g < W.heap.size := fun g e => h.oL.lt g e
  have hblk : ∀ b, b < W.heap.size → vN.ownBlock ≠ some b → W'.heap[b]? = W.heap[b]? := fun b hb hn => hg.block b hb (by first | exact hn | exact fun e => hn e.symm)
  have hb : ∀ b o, b < W.heap.size → vN.ownBlock ≠ some b → b ≠ w.heap.size + 1 → (W'.setCell ⟨w.heap.size + 1, 2, none⟩ vN').cell? ⟨b, o, none⟩ = W.cell? ⟨b, o, none⟩ := fun b o hb hn hne => by
    rw [World.cell?_setCell_other _ _ _ _ (by intro e; have := congrArg Addr.block e; simp at this; omega)]
    exact World.cell?_of_block (a := ⟨b, o, none⟩) (hblk b hb hn)
  have hbox : ∀ o, W'.cell? ⟨w.heap.size + 1, o, none⟩ = W.cell? ⟨w.heap.size + 1, o, none⟩ := fun o => World.cell?_of_block (a := ⟨w.heap.size + 1, o, none⟩) (hblk (w.heap.size + 1) (by omega) (fun e => by have := hLlt _ e; omega))
  have hbo : ∀ o, o ≠ 2 → (W'.setCell ⟨w.heap.size + 1, 2, none⟩ vN').cell? ⟨w.heap.size + 1, o, none⟩ = W.cell? ⟨w.heap.size + 1, o, none⟩ := fun o ho => by
    rw [World.cell?_setCell_other _ _ _ _ (by intro e; injection e with _ e; omega)]
    exact hbox o
  have hfz : ∀ b o, b < W.heap.size → vN.ownBlock ≠ some b → (W'.setCell ⟨w.heap.size + 1, 2, none⟩ vN').frozen? ⟨b, o, none⟩ = W.frozen? ⟨b, o, none⟩ := fun b o hb hn => by
    rw [World.frozen?_setCell]
    exact World.frozen?_of_block (a := ⟨b, o, none⟩) (hblk b hb hn)
  have hsz : (W'.setCell ⟨w.heap.size + 1, 2, none⟩ vN').heap.size = W'.heap.size := by simp [World.setCell]
  have hr : ∀ o, (W'.setCell ⟨w.heap.size + 1, 2, none⟩ vN').cell? ⟨w.heap.size, o, none⟩ = W.cell? ⟨w.heap.size, o, none⟩ := fun o => hb _ o (by omega) (fun e => by have := hLlt _ e; omega) (by omega)
  refine ⟨?_, by rw [hsz]; omega, (hbo 0 (by decide)).trans h.b0, (hbo 1 (by decide)).trans h.b1, World.cell?_setCell_same _ _ _ ((hbox 2).trans h.b2), (hbo 3 (by decide)).trans h.b3, fun j => (hfz _ j (by omega) (fun e => by have := hLlt _ e; omega)).trans (h.bf j),
    (hr 0).trans h.r0, (hr 1).trans h.r1, (hr 2).trans h.r2, (hr 3).trans h.r3, fun j => (hfz _ j (by omega) (fun e => by have := hLlt _ e; omega)).trans (h.rf j), ?_, ?_, ?_, ?_, h.ck⟩
  · refine (h.below.trans (c := W') ⟨hg.os, hg.tape, hg.output, by omega, fun k hk => hblk k (by omega) (fun e => by have := hLlt _ e; omega)⟩).setCell (p := ⟨w.heap.size + 1, 2, none⟩) (by show _ ≤ w.heap.size + 1; omega) _
  · rw [List.length_append, List.length_singleton, List.map_append]
    exact ownsRow_setCell_other hown (by intro e; have h1 : w.heap.size + 2 ≤ w.heap.size + 1 := hL'lt _ e; omega) _
  · refine ownsRow_setCell_other (h.oL.kept hg ?_) ?_ _
    · cases hv : vL.ownBlock with
      | none => exact .inl rfl
      | some g => exact .inr (fun e => h.ne g e.symm hv)
    · intro e; have h1 : w.heap.size + 2 ≤ w.heap.size + 1 ∧ _ := hNlt _ e; omega
  · intro g e e2
    rcases hlie with e3 | e3
    · rw [e3] at e; exact h.ne g e e2
    · rw [e3] at e; have := Option.some.inj e; have := hNlt _ e2; omega
  · refine h.rd.step (fun b hd => ⟨hd.1, by rw [hsz]; have := hd.2.1; omega, ?_, hd.2.2.2⟩) (fun b o hd => hb b o hd.2.1 hd.2.2.1 (by have := hd.1; omega))
    rcases hlie with e | e
    · rw [e]; exact hd.2.2.1
    · rw [e]; intro e2; have := Option.some.inj e2; have := hd.2.1; omega

/-- The digits of a number below 10: nothing is drawn. -/
theorem digit1 (v : Nat) (w : World) (h10 : v < 10) :
    Calls Tryd.prog 14 #[.int .i64 v] w fun e w' => e = .returned (.string ⟨#[dch v]⟩) ∧ w' = w := by
  have d1 : decide ((v : Int) ≤ -10) = false := decide_eq_false (by omega)
  have d2 : decide ((v : Int) < 0) = false := decide_eq_false (by omega)
  have d3 : decide ((v : Int) < 10) = true := by simp; omega
  have hsl := digit_slice v h10
  have h2 : ∀ W, Calls Tryd.prog 20 #[.int .i64 v] W fun e w' => e = .returned (.string ⟨#[dch v]⟩) ∧ w' = W := fun W => by
    go_enter Tryd.func20, Tryd.ntmps20
    go_wp2_with fail
    go_ret
    exact ⟨rfl, rfl⟩
  clear hsl d1 d2 d3
  go_enter Tryd.func14, Tryd.ntmps14
  go_wp2_with fail
  refine (h2 _).mono ?_
  rintro e w1 ⟨rfl, rfl⟩
  go_wp2_with fail
  go_ret
  exact ⟨rfl, rfl⟩

theorem made_le {a b c L S : Nat} (h1 : L ≤ S + 6 * c) (h2 : S ≤ 28 * (a - (b + 1)) + 4 * c) (h3 : b + 1 ≤ a) (h4 : c ≤ 3) : 1 + (L + 1) ≤ 28 * (a - b) + 4 := by omega
/-- What comes out. -/
theorem MSt.done {w W W' : World} {kk : Int} {dd n : Nat} {ns : List ByteArray} {xs : List JV} {cs : List Value} {vN vL : Value} (h : MSt w kk dd ns xs cs vN vL W) (hn : n ≤ 3) (hxs : xs.length = n) (hk : (kk = 7 ∧ ns = []) ∨ (kk = 8 ∧ ns = nmL n n)) (at0 at' : Nat) (hat : at0 + 1 ≤ at' ∧ at' ≤ 40) (hsum : (xs.map fun x => (txt dd x).length).sum ≤ 28 * (at' - (at0 + 1)) + 4 * xs.length)
    (hc : ∀ b o, b ≠ w.heap.size → W'.cell? ⟨b, o, none⟩ = W.cell? ⟨b, o, none⟩) (hsz : W'.heap.size = W.heap.size) (hbel : Below w.heap.size W W') :
    MadeIs at0 (dd + 1) w (.returned (.tuple #[.agg #[.int .i64 kk, .string ⟨#[]⟩, vN, vL], .int .i64 at'])) W' := by
  have hs := h.sz
  have hnl : ns.length ≤ 3 := by
    rcases hk with ⟨_, e⟩ | ⟨_, e⟩
    · rw [e]; simp
    · rw [e, nmL_len]; exact hn
  have hnsz : ∀ s ∈ ns, s.size ≤ 2 := by
    rcases hk with ⟨_, e⟩ | ⟨_, e⟩
    · rw [e]; simp
    · rw [e]
      have : ∀ k, ∀ s ∈ nmL n k, s.size ≤ 2 := by
        intro k
        induction k with
        | zero => intro s hs; cases hs
        | succ k ih =>
          intro s hs
          unfold nmL at hs
          rcases List.mem_append.1 hs with hs | hs
          · exact ih s hs
          · simp at hs; subst hs; exact Nat.le_refl _
      exact this n
  obtain ⟨aN, cN, rfl, hcN, hN⟩ := fresh_row h.oN
  obtain ⟨aL, cL, rfl, hcL, hL⟩ := fresh_row h.oL
  have hcl : cs.length = xs.length * 4 := h.oL.1
  refine ⟨.mk kk ⟨#[]⟩ ns xs, _, at', rfl, ⟨by omega, hat.2⟩, ⟨aN, cN, aL, cL, rfl, ⟨Nat.zero_le _, by show ns.length ≤ _; omega, by show xs.length ≤ _; omega, hcN, hcL⟩, fun hp => ?_, fun hp => ?_⟩, ?_, ⟨?_, ?_⟩, h.below.trans hbel⟩
  · obtain ⟨g, rfl, hg1, hg2, _, hg3⟩ := hN hp
    refine ⟨g, 0, rfl, ⟨by omega, by omega⟩, fun j s hj => ?_⟩
    have hlt : j < ns.length := (List.getElem?_eq_some_iff.1 hj).1
    refine ⟨Nat.le_trans (hnsz s (List.mem_of_getElem? hj)) (by decide), ?_⟩
    rw [hc g _ (by omega), Nat.zero_add, hg3 j (by omega), List.getElem?_map]
    have hj' : ns[j]? = some s := hj
    rw [hj']; rfl
  · obtain ⟨g, rfl, hg1, hg2, _, hg3⟩ := hL hp
    refine ⟨g, 0, rfl, ⟨by omega, by omega⟩, fun i x hx => ?_⟩
    have hlt : i < xs.length := (List.getElem?_eq_some_iff.1 hx).1
    obtain ⟨d0, d1, d2, d3, h0, h1, h2, h3, hR⟩ := h.rd i x hx
    have hat : ∀ k u, k < 4 → cs[i * 4 + k]? = some u → W'.cell? ⟨g, 0 + i * 4 + k, none⟩ = some u := fun k u hk hu => by
      rw [hc g _ (by omega), Nat.zero_add, hg3 (i * 4 + k) (by omega)]
      exact hu
    exact ⟨d0, d1, d2, d3, ⟨hat 0 d0 (by omega) h0, hat 1 d1 (by omega) h1, hat 2 d2 (by omega) h2, hat 3 d3 (by omega) h3⟩, RdD.step (fun b hd => ⟨by have := hd.1; omega, by rw [hsz]; exact hd.2.1⟩) (fun b o hd => hc b o (by have := hd.1; omega)) hR⟩
  · show (selfB (.mk kk ⟨#[]⟩ ns xs) && xs.all (chkAt dd)) = true
    rw [Bool.and_eq_true]
    refine ⟨?_, List.all_eq_true.2 fun x hx => (h.ck x hx).1⟩
    rcases hk with ⟨rfl, rfl⟩ | ⟨rfl, rfl⟩
    · rfl
    · rw [self_obj (x := .mk 8 ⟨#[]⟩ (nmL n n) xs) rfl]
      show (true && decide ((nmL n n).length = xs.length) && nmOk (nmL n n)) = true
      rw [nm_ok n hn, nmL_len, hxs]
      simp
  · have hq : ∀ s ∈ ns, (quoteB (vbl s)).length ≤ 4 := fun s hs => by
      rcases hk with ⟨_, e⟩ | ⟨_, e⟩
      · rw [e] at hs; cases hs
      · rw [e] at hs
        have : ∀ n, n ≤ 3 → (nmL n n).all (fun s => decide ((quoteB (vbl s)).length ≤ 4)) = true := by
          intro n hn
          have v1 : quoteB (vbl (nmS 1)) = [34, 110, 49, 34] := by unfold quoteB; rw [nm_valid 1 (by omega)]; rfl
          have v2 : quoteB (vbl (nmS 2)) = [34, 110, 50, 34] := by unfold quoteB; rw [nm_valid 2 (by omega)]; rfl
          have v3 : quoteB (vbl (nmS 3)) = [34, 110, 51, 34] := by unfold quoteB; rw [nm_valid 3 (by omega)]; rfl
          match n, hn with
          | 0, _ => rfl
          | 1, _ => simp [nmL, v1]
          | 2, _ => simp [nmL, v1, v2]
          | 3, _ => simp [nmL, v1, v2, v3]
        exact of_decide_eq_true (List.all_eq_true.1 (this n hn) s hs)
    have hpts : ∀ (ob : Bool) (xs : List JV) (ns : List ByteArray) (fst : Bool), (∀ s ∈ ns, (quoteB (vbl s)).length ≤ 4) → (pts (txt dd) ob fst ns xs).length ≤ (xs.map fun x => (txt dd x).length).sum + 6 * xs.length := by
      intro ob xs
      induction xs with
      | nil => intro ns fst _; exact Nat.zero_le _
      | cons p r ih =>
        intro ns fst h1
        have e1 := ih ns.tail false (fun s hs => h1 s (List.mem_of_mem_tail hs))
        have e3 : (quoteB (vbl (ns.headD ⟨#[]⟩))).length ≤ 4 := by
          cases ns with
          | nil => decide
          | cons s t => exact h1 s (by simp)
        unfold pts
        simp only [List.length_append, List.length_cons, List.map_cons, List.sum_cons]
        have e4 : (if fst then ([] : List UInt8) else [44]).length ≤ 1 := by cases fst <;> decide
        have e5 : (if ob then quoteB (vbl (ns.headD ⟨#[]⟩)) ++ [58] else []).length ≤ 5 := by
          cases ob
          · exact Nat.zero_le _
          · show (quoteB _ ++ [58]).length ≤ 5
            rw [List.length_append]; simp only [List.length_singleton]; omega
        omega
    rcases hk with ⟨rfl, _⟩ | ⟨rfl, _⟩
    · rw [txt_list (x := .mk 7 ⟨#[]⟩ ns xs) rfl]
      have := hpts false xs ns true hq
      simp only [List.length_append, List.length_singleton]
      exact made_le this hsum hat.1 (by rw [hxs]; exact hn)
    · rw [txt_obj (x := .mk 8 ⟨#[]⟩ ns xs) rfl]
      have := hpts true xs ns true hq
      simp only [List.length_append, List.length_singleton]
      exact made_le this hsum hat.1 (by rw [hxs]; exact hn)
  · show (plainS ⟨#[]⟩ && ns.all plainS && xs.all (tame dd)) = true
    rw [Bool.and_eq_true, Bool.and_eq_true]
    refine ⟨⟨rfl, ?_⟩, List.all_eq_true.2 fun x hx => (h.ck x hx).2⟩
    rcases hk with ⟨_, e⟩ | ⟨_, e⟩
    · rw [e]; rfl
    · rw [e]; exact nm_plain n hn

end Go.Proofs.YtbcenaljaoejkaaDoor

/-
  What refectorylaw02.Made answers where it makes a list or an object.
-/
namespace Go.Proofs.YtbcenaljaoejkaaDoor
open Go.RowKit

theorem cell_four_newM (w : World) (c0 c1 c2 c3 : Value) (t : TypeId) : ∀ j u, [c0, c1, c2, c3][j]? = some u → (w.alloc (.cells #[c0, c1, c2, c3] t)).cell? ((⟨w.heap.size, 0, none⟩ : Addr).add j) = some u := by
  intro j u hj
  rw [Go.WideShapes.add_plain, Nat.zero_add]
  have hb : (w.alloc (.cells #[c0, c1, c2, c3] t)).heap[w.heap.size]? = some (.cells #[c0, c1, c2, c3] t (0, 0)) := heap_alloc_new _ _
  rw [Lib.cell_of_heap hb j]
  rw [← hj, ← Array.getElem?_toList]

def MRel (w : World) (kk : Int) (dd n0 at0 : Nat) (k : Nat) (vat vn : Value) (W : World) : Prop :=
  ∃ (j : Nat) (at1 : Nat) (ns : List ByteArray) (xs : List JV) (cs : List Value) (vN vL : Value), j = k ∧ vat = .int .i64 at1 ∧ (at0 + 1 ≤ at1 ∧ at1 ≤ 40 ∧ (xs.map fun x => (txt dd x).length).sum ≤ 28 * (at1 - (at0 + 1)) + 4 * xs.length) ∧ vn = .int .i64 j ∧ j ≤ n0 ∧ xs.length = n0 - j ∧ ((kk = 7 ∧ ns = []) ∨ (kk = 8 ∧ ns = nmL n0 (n0 - j))) ∧ MSt w kk dd ns xs cs vN vL W

theorem IntsAt.below {w w' : World} {B : Nat} {a : Option Addr} {zs : List Int} (h : IntsAt w B a zs) (hb : Below B w w') : IntsAt w' B a zs := fun hp => by
  obtain ⟨b, off, e, hl, hc⟩ := h hp
  exact ⟨b, off, e, hl, fun i z hz => (hb.cell (p := ⟨b, off + i, none⟩) hl).trans (hc i z hz)⟩

theorem mst_init (w : World) (kk : Int) (dd : Nat) : MSt w kk dd [] [] [] (.slice none 0 0) (.slice none 0 0) ((w.alloc (.cells #[.int .i64 0, .string ⟨#[]⟩, .slice none 0 0, .slice none 0 0] 26)).alloc (.cells #[.int .i64 kk, .string ⟨#[]⟩, .slice none 0 0, .slice none 0 0] 26)) := by
  obtain ⟨W, hW⟩ : ∃ W, W = ((w.alloc (.cells #[.int .i64 0, .string ⟨#[]⟩, .slice none 0 0, .slice none 0 0] 26)).alloc (.cells #[.int .i64 kk, .string ⟨#[]⟩, .slice none 0 0, .slice none 0 0] 26)) := ⟨_, rfl⟩
  rw [← hW]
  have hb : Below w.heap.size w W := by
    rw [hW]
    exact ((Below.refl _ w).alloc (Nat.le_refl _) _).alloc (by simp) _
  have c1 : ∀ j, W.cell? ⟨w.heap.size + 1, j, none⟩ = (#[Value.int .i64 kk, .string ⟨#[]⟩, .slice none 0 0, .slice none 0 0] : Array Value)[j]? := fun j => by rw [hW]; go_simp
  have f1 : ∀ j, W.frozen? ⟨w.heap.size + 1, j, none⟩ = false := fun j => by rw [hW]; go_simp
  have c0 : ∀ j, W.cell? ⟨w.heap.size, j, none⟩ = (#[Value.int .i64 0, .string ⟨#[]⟩, .slice none 0 0, .slice none 0 0] : Array Value)[j]? := fun j => by rw [hW]; go_simp
  have f0 : ∀ j, W.frozen? ⟨w.heap.size, j, none⟩ = false := fun j => by rw [hW]; go_simp
  have hs : W.heap.size = w.heap.size + 2 := by rw [hW]; simp
  exact ⟨hb, by omega, c1 0, c1 1, c1 2, c1 3, f1, c0 0, c0 1, c0 2, c0 3, f0, World.ownsRow_nil _ _ _ _, World.ownsRow_nil _ _ _ _, (fun g e => by cases e), (fun i x hx => by simp at hx), (fun x hx => by cases hx)⟩

theorem MSt.boxL {w W W' : World} {kk : Int} {dd : Nat} {ns : List ByteArray} {xs : List JV} {cs : List Value} {vN vL : Value} (h : MSt w kk dd ns xs cs vN vL W) (hg : W.grownBy W' vL.ownBlock) :
    (∀ o, W'.cell? ⟨w.heap.size + 1, o, none⟩ = W.cell? ⟨w.heap.size + 1, o, none⟩) ∧ ∀ o, W'.frozen? ⟨w.heap.size + 1, o, none⟩ = false := by
  have hs := h.sz
  have hblk : W'.heap[w.heap.size + 1]? = W.heap[w.heap.size + 1]? := hg.block _ (by omega) (fun e => by
    have := (h.oL.lt (w.heap.size + 1) (by first | exact e | exact e.symm)).1; omega)
  exact ⟨fun o => World.cell?_of_block (a := ⟨w.heap.size + 1, o, none⟩) hblk, fun o => (World.frozen?_of_block (a := ⟨w.heap.size + 1, o, none⟩) hblk).trans (h.bf o)⟩
theorem MSt.boxN {w W W' : World} {kk : Int} {dd : Nat} {ns : List ByteArray} {xs : List JV} {cs : List Value} {vN vL : Value} (h : MSt w kk dd ns xs cs vN vL W) (hg : W.grownBy W' vN.ownBlock) :
    (∀ o, W'.cell? ⟨w.heap.size + 1, o, none⟩ = W.cell? ⟨w.heap.size + 1, o, none⟩) ∧ ∀ o, W'.frozen? ⟨w.heap.size + 1, o, none⟩ = false := by
  have hs := h.sz
  have hblk : W'.heap[w.heap.size + 1]? = W.heap[w.heap.size + 1]? := hg.block _ (by omega) (fun e => by
    have := (h.oN.lt (w.heap.size + 1) (by first | exact e | exact e.symm)).1; omega)
  exact ⟨fun o => World.cell?_of_block (a := ⟨w.heap.size + 1, o, none⟩) hblk, fun o => (World.frozen?_of_block (a := ⟨w.heap.size + 1, o, none⟩) hblk).trans (h.bf o)⟩

set_option maxHeartbeats 2000000 in
set_option maxRecDepth 100000 in
theorem made_many (kk : Int) (r : Int) (hkr : kk = 7 + r) (hkk : kk = 7 ∨ kk = 8) (dd n0 : Nat) (hdd : 1 ≤ dd) (hd5 : dd ≤ 5) (hn0 : n0 ≤ 3) (B : Nat) (a : Option Addr) (cap : Nat) (zs : List Int) (at0 u : Nat) (w : World) (hB : B ≤ w.heap.size) (hat : at0 ≤ 39) (h : at0 < zs.length) (hz : IntsAt w B a zs)
    (ih : ∀ (at1 : Nat) (W : World), at1 ≤ 40 → B ≤ W.heap.size → IntsAt W B a zs → Calls Tryd.prog 11 #[.slice a zs.length cap, .int .i64 at1, .int .i64 dd] W (MadeIs at1 dd W))
    (hu : u < 1048576) (b off : Nat) (z : Int) (ha : a = some ⟨b, off, none⟩) (hb : b < w.heap.size) (hc : w.cell? ⟨b, off + at0, none⟩ = some (.int .i64 z)) (hp : ∀ W, Calls Tryd.prog 13 #[.int .i64 z, .int .i64 1048576] W fun e w' => e = .returned (.int .i64 (u : Int)) ∧ W = w')
    (q7 : (u : Int) % 7 = 4) (qm : (u : Int) / 7 % 2 = r) (qn : (u : Int) / 14 % 4 = n0) (D : Int) (hD : D = dd + 1) :
    Calls Tryd.prog 11 #[.slice a zs.length cap, .int .i64 at0, .int .i64 D] w (MadeIs at0 (dd + 1) w) := by
  obtain ⟨i2, hi2, hz20, hz21, hz22⟩ := info_parts infoVal
  obtain ⟨i3, hi3, hz30, hz31, hz32⟩ := info_parts infoStr
  have HI := Lib.hid ih
  have HZ := Lib.hid hz
  have HR : Hid (7 + r = kk) := Lib.hid hkr.symm
  have hr : r = 0 ∨ r = 1 := by omega
  clear ih hz
  subst ha
  have d0 : decide (zs.length ≤ at0) = false := by simp; omega
  have d1 : decide (D ≤ 1) = false := by simp; omega
  have l1 : b < w.heap.size + 1 := by omega
  have hD1 : 2 ≤ D := by omega
  have hD2 : D ≤ 6 := by omega
  have HD := Lib.hid hD
  clear hD hkr
  have hr0 : 0 ≤ r := by omega
  have hr1 : r ≤ 1 := by omega
  clear hr
  have HK := Lib.hid hkk
  clear hkk
  go_enter Tryd.func11, Tryd.ntmps11
  go_wp2_with ((go_at_call 13); (with_reducible refine (hp _).mono ?_); rintro e w' ⟨rfl, rfl⟩)
  rw [HR.out]
  go_loopg [1, 11, 12, 13] n0 (fun k vat vn _ _ wr => MRel w kk dd n0 at0 k vat vn wr)
  case atStart => exact ⟨n0, at0 + 1, [], [], [], _, _, rfl, by rfl, ⟨Nat.le_refl _, by omega, Nat.zero_le _⟩, by rw [qn], Nat.le_refl _, by simp, by
    rcases HK.out with e | e
    · exact .inl ⟨e, rfl⟩
    · exact .inr ⟨e, by rw [Nat.sub_self]; rfl⟩, mst_init w kk dd⟩
  case round =>
    clear q7 qm qn d0 d1 hc hp
    obtain ⟨k, at1, ns, xs, cs, vN, vL, rfl, rfl, ⟨hat0, hat1, hsum⟩, rfl, hk, hxl, hns, hm⟩ := hrel
    have HSUM := Lib.hid hsum
    clear hsum
    obtain ⟨aN, cN, rfl, hcN, _⟩ := fresh_row hm.oN
    obtain ⟨aL, cL, rfl, hcL, _⟩ := fresh_row hm.oL
    have HXL := Lib.hid hxl
    have HNS := Lib.hid hns
    clear hxl hns
    cases k with
    | zero =>
      have HM := Lib.hid hm
      have hs := hm.sz
      obtain ⟨_, _, b0, b1, b2, b3, bf, r0, r1, r2, r3, rf, _, _, _, _, _⟩ := hm
      go_wp2_with fail
      refine bodyPost_ret (v := .tuple #[.agg #[.int .i64 kk, .string ⟨#[]⟩, (.slice aN ns.length cN), (.slice aL xs.length cL)], .int .i64 at1]) (by simp [results, Tryd.results11, go_sem, r0, r1, r2, r3]) rfl ?_
      refine HM.out.done (n := n0) hn0 (by have := HXL.out; omega) ?_ at0 at1 ⟨hat0, hat1⟩ HSUM.out ?_ ?_ ?_
      · rcases HNS.out with e | ⟨e, e2⟩
        · exact .inl e
        · exact .inr ⟨e, by rw [e2, Nat.sub_zero]⟩
      · intro b o hne
        rw [World.cell?_setCell_other _ _ _ _ (by intro e; injection e with e _; omega), World.cell?_setCell_other _ _ _ _ (by intro e; injection e with e _; omega), World.cell?_setCell_other _ _ _ _ (by intro e; injection e with e _; omega), World.cell?_setCell_other _ _ _ _ (by intro e; injection e with e _; omega)]
      · simp [World.setCell]
      · exact ((((Below.refl _ _).setCell (p := ⟨w.heap.size, 0, none⟩) (Nat.le_refl _) _).setCell (p := ⟨w.heap.size, 1, none⟩) (Nat.le_refl _) _).setCell (p := ⟨w.heap.size, 2, none⟩) (Nat.le_refl _) _).setCell (p := ⟨w.heap.size, 3, none⟩) (Nat.le_refl _) _
    | succ k =>
      have hs := hm.sz
      have hwr : B ≤ wr.heap.size := by omega
      have HC : Hid (Calls Tryd.prog 11 #[.slice (some ⟨b, off, none⟩) zs.length cap, .int .i64 at1, .int .i64 (D - 1)] wr (MadeIs at1 dd wr)) := Lib.hid (by
        rw [show D - 1 = (dd : Int) by have := HD.out; omega]
        exact HI.out at1 wr hat1 hwr (HZ.out.below (hm.below.mono hB)))
      have HM := Lib.hid hm
      clear hm
      have hnl : ns.length ≤ 3 := by
        rcases HNS.out with ⟨_, e⟩ | ⟨_, e⟩
        · rw [e]; simp
        · rw [e, nmL_len]; omega
      go_upto_region 22 with ((go_at_call 11); (with_reducible refine HC.out.mono ?_); rintro e w1 ⟨x, v, at2, rfl, ⟨hat3, hat2⟩, hR, hck, htx, hb1⟩; obtain ⟨an, cn, ap, cp, rfl⟩ := hR.shape)
      have hm1 := HM.out.grow hb1
      have HSU2 := Lib.hid (show ((xs ++ [x]).map fun x => (txt dd x).length).sum ≤ 28 * (at2 - (at0 + 1)) + 4 * (xs ++ [x]).length by
        have h1 := HSUM.out
        have h2 := htx.1
        simp only [List.map_append, List.map_cons, List.map_nil, List.sum_append, List.sum_cons, List.sum_nil, List.length_append, List.length_cons, List.length_nil]
        omega)
      have hz1 : w.heap.size + 1 < w1.heap.size := by have := hm1.sz; omega
      have hz1' : w.heap.size + 1 < w1.heap.size + 1 := by omega
      have hx1 := RdD.step (D' := MD w w1 (.slice aN ns.length cN) (.slice aL xs.length cL)) (fun b hd => HM.out.fresh (W' := w1) b hd) (fun _ _ _ => rfl) hR
      obtain ⟨W2, hW2⟩ : ∃ W2, W2 = ((w1.alloc (.cells #[.int .i64 x.k, .string x.s, .slice an x.ns.length cn, .slice ap x.ps.length cp] 26)).alloc (.cells #[.int .i64 x.k, .string x.s, .slice an x.ns.length cn, .slice ap x.ps.length cp] 26)) := ⟨_, rfl⟩
      have hb2 : Below w1.heap.size w1 W2 := by
        rw [hW2]
        exact ((Below.refl _ w1).alloc (Nat.le_refl _) _).alloc (by simp) _
      have hs2 : w1.heap.size + 1 + 1 = W2.heap.size := by rw [hW2]; simp
      have HS2 := Lib.hid hs2
      clear hs2
      have hm2 := hm1.grow hb2
      have hx2 := RdD.step (w' := W2) (D' := MD w W2 (.slice aN ns.length cN) (.slice aL xs.length cL)) (fun b hd => ⟨hd.1, Nat.lt_of_lt_of_le hd.2.1 hb2.size, hd.2.2⟩) (fun b o hd => hb2.cell (p := ⟨b, o, none⟩) hd.2.1) hx1
      have b3 := hm1.b3
      have hxl3 : xs.length ≤ 3 := by have := HXL.out; omega
      have HM1 := Lib.hid hm1
      have HM2 := Lib.hid hm2
      have HX2 := Lib.hid hx2
      have HW2 := Lib.hid hW2
      clear hm1 hm2 hx2 hx1 hW2 hR
      go_wp2_with (at_builtin; refine wpList_append_own_at _ rfl _ _ 24 rfl (w.heap.size + 2) 26 i2 (.agg #[.int .i64 0, .string ⟨#[]⟩, .slice none 0 0, .slice none 0 0]) 4 72 Tryd.underlying24 hi2 hz20 hz21 hz22 rfl (by decide) (.slice aL xs.length cL) xs.length cs rfl ((HM1.out.oL.alloc _).alloc _) ⟨w1.heap.size + 1, 0, none⟩ 1 1 [.int .i64 x.k, .string x.s, .slice an x.ns.length cn, .slice ap x.ps.length cp] rfl rfl ?c1 ?c2 (by unfold maxLen; omega) (by omega) (by simp; omega) ?_)
      case c1 =>
        have := cell_four_newM (w1.alloc (.cells #[.int .i64 x.k, .string x.s, .slice an x.ns.length cn, .slice ap x.ps.length cp] 26)) (.int .i64 x.k) (.string x.s) (.slice an x.ns.length cn) (.slice ap x.ps.length cp) 26
        simpa using this
      case c2 =>
        intro u hu
        simp at hu
        rcases hu with rfl | rfl | rfl | rfl <;> rfl
      intro v7 w7 hown7 hg7 _ hlie7
      rw [← HW2.out] at hg7
      rw [HS2.out] at hlie7
      have hm3 := HM2.out.list HX2.out ⟨hck, htx.2⟩ hown7 hg7 hlie7
      obtain ⟨c7, f7⟩ := HM2.out.boxL hg7
      have e7 : w7.cell? ⟨w.heap.size + 1, 3, none⟩ = some (.slice aL xs.length cL) := (c7 3).trans HM2.out.b3
      obtain ⟨a7, cap7, rfl, _, _⟩ := fresh_row hown7
      have HM3 := Lib.hid hm3
      clear hm3 c7 hlie7 hg7 hown7 HM2 HX2 HW2 HM1 b3 hck htx hb2 hb1 HC HM
      go_upto_region 23 with fail
      generalize w7.setCell ⟨w.heap.size + 1, 3, none⟩ (.slice a7 (xs.length + 1) cap7) = W4 at *
      have b0 := HM3.out.b0
      have b2 := HM3.out.b2
      have hz4 : w.heap.size + 1 < W4.heap.size := by have := HM3.out.sz; omega
      clear e7 f7 hz1 hz1'
      rcases HK.out with e | e
      · subst e
        have hns : ns = [] := by
          rcases HNS.out with ⟨_, e⟩ | ⟨e, _⟩
          · exact e
          · cases e
        have HE := Lib.hid hns
        clear hns
        go_wp2_with fail
        go_roundg k
        case measure => omega
        case rel => exact ⟨k, at2, ns, xs ++ [x], _, _, _, rfl, rfl, ⟨by omega, hat2, HSU2.out⟩, by go_num, by omega, by rw [List.length_append, List.length_singleton]; have := HXL.out; omega, .inl ⟨rfl, HE.out⟩, HM3.out⟩
      · subst e
        have hns : ns = nmL n0 (n0 - (k + 1)) := by
          rcases HNS.out with ⟨e, _⟩ | ⟨_, e⟩
          · cases e
          · exact e
        have HE := Lib.hid hns
        clear hns
        have hk10 : k + 1 < 10 := by omega
        have hdig : ∀ W, Calls Tryd.prog 14 #[.int .i64 ((k : Int) + 1)] W fun e w' => e = .returned (.string ⟨#[dch (k + 1)]⟩) ∧ w' = W := fun W => digit1 (k + 1) W hk10
        go_upto_region 24 with fail
        have hS : (({ data := #[110] } : ByteArray) ++ { data := #[dch (k + 1)] }) = nmS (k + 1) := by
          apply ByteArray.ext
          rw [ByteArray.data_append]
          rfl
        obtain ⟨W5, hW5⟩ : ∃ W5, W5 = (W4.alloc (.cells #[.string (({ data := #[110] } : ByteArray) ++ { data := #[dch (k + 1)] })] 9)).drew := ⟨_, rfl⟩
        have hb5 : Below W4.heap.size W4 W5 := by
          rw [hW5]
          exact ((Below.refl _ W4).alloc (Nat.le_refl _) _).drew
        have hm5 := HM3.out.grow hb5
        have hs5 : W5.heap.size = W4.heap.size + 1 := by
          rw [hW5]
          show (W4.alloc _).heap.size = _
          simp
        have hn5 : ∀ j u, [Value.string (nmS (k + 1))][j]? = some u → W5.cell? ((⟨W4.heap.size, 0, none⟩ : Addr).add j) = some u := by
          have := cell_one_new W4 (.string (nmS (k + 1))) 9
          rw [hW5, hS]
          exact this
        have h15 : ∀ u ∈ [Value.string (nmS (k + 1))], u.oneCell' = true := by
          intro u hu
          simp at hu
          subst hu
          rfl
        have hz5 : w.heap.size + 2 ≤ W5.heap.size := hm5.sz
        have HM5 := Lib.hid hm5
        have HS5 := Lib.hid hs5
        have HN5 := Lib.hid hn5
        have H15 := Lib.hid h15
        have HZ5 := Lib.hid hz5
        have HW5 := Lib.hid hW5
        clear hm5 hs5 hn5 h15 hz5 hb5 hW5 hS
        go_region_law (first
          | (rw [← HW5.out]; refine step_append_lies _ rfl (.tmp 109) (.tmp 113) 23 rfl (w.heap.size + 2) 9 i3 (.string ⟨#[]⟩) 1 16 Tryd.underlying23 hi3 hz30 hz31 hz32 rfl (by decide) (.slice aN ns.length cN) ns.length (ns.map Value.string) (by simp [Act.eval]) HM5.out.oN ⟨W4.heap.size, 0, none⟩ 1 1 [.string (nmS (k + 1))] (by simp [Act.eval]) rfl HN5.out H15.out (by decide) (by unfold maxLen; omega) (by omega) HZ5.out (W4.heap.size + 1) HS5.out ?_; intro g8 cap8 w8 hown8 hg8 hlie8 hl8; obtain ⟨c8, f8⟩ := HM5.out.boxN hg8; have e8 := (c8 2).trans HM5.out.b2; clear c8)
          | (go_simp; (go_at_call 14); (refine (hdig _).mono ?_); rintro e w' ⟨rfl, rfl⟩))
        all_goals (
          have hm8 := HM5.out.name hown8 hg8 (by
            rcases hlie8 with e | e
            · exact .inl e.symm
            · exact .inr (by rw [HS5.out, e]; rfl))
          clear hlie8 hg8 hown8 HM5 HM3
          go_wp2_with fail
          go_roundg k
          case measure => omega
          case rel => exact ⟨k, at2, ns ++ [nmS (k + 1)], xs ++ [x], _, _, _, rfl, rfl, ⟨by omega, hat2, HSU2.out⟩, by go_num, by omega, by rw [List.length_append, List.length_singleton]; have := HXL.out; omega, .inr ⟨rfl, by
            rw [HE.out, show n0 - k = (n0 - (k + 1)) + 1 by omega]
            unfold nmL
            rw [show n0 - (n0 - (k + 1)) = k + 1 by omega]
            cases (n0 - (k + 1)) <;> rfl⟩, hm8⟩)

end Go.Proofs.YtbcenaljaoejkaaDoor

/-
  What refectorylaw02.Made answers.
-/
namespace Go.Proofs.YtbcenaljaoejkaaDoor
open Go.RowKit

theorem ints_at_of {w : World} {a : Option Addr} {zs : List Int} (hr : 0 < zs.length → ∃ b off, a = some ⟨b, off, none⟩ ∧ ∀ i z, zs[i]? = some z → w.cell? ⟨b, off + i, none⟩ = some (.int .i64 z)) : IntsAt w w.heap.size a zs := fun hp => by
  obtain ⟨b, off, e, hc⟩ := hr hp
  exact ⟨b, off, e, World.block_lt_of_cell? w _ (hc 0 _ (List.getElem?_eq_getElem hp)), hc⟩

theorem made_any : ∀ (d : Nat), 1 ≤ d → d ≤ 6 → ∀ (B : Nat) (a : Option Addr) (cap : Nat) (zs : List Int) (at0 : Nat) (w : World), zs.length ≤ 40 → at0 ≤ 40 → B ≤ w.heap.size → IntsAt w B a zs →
    Calls Tryd.prog 11 #[.slice a zs.length cap, .int .i64 at0, .int .i64 d] w (MadeIs at0 d w)
  | 0, h, _, _, _, _, _, _, _, _, _, _, _ => absurd h (by omega)
  | d + 1, _, hd6, B, a, cap, zs, at0, w, hl, hat, hB, hz => by
    by_cases hlt : at0 < zs.length
    · obtain ⟨b, off, ha, hb, hc⟩ := hz (by omega)
      have hu : 0 ≤ zs[at0] % 1048576 ∧ zs[at0] % 1048576 < 1048576 := ⟨Int.emod_nonneg _ (by decide), Int.emod_lt_of_pos _ (by decide)⟩
      have hp : ∀ W, Calls Tryd.prog 13 #[.int .i64 zs[at0], .int .i64 1048576] W fun e w' => e = .returned (.int .i64 ((zs[at0] % 1048576).toNat : Int)) ∧ W = w' := fun W => by
        rw [Int.toNat_of_nonneg hu.1]
        exact place_any zs[at0] 1048576 W (by decide) (by decide)
      have hcz := hc at0 _ (List.getElem?_eq_getElem hlt)
      have hul : (zs[at0] % 1048576).toNat < 1048576 := by omega
      generalize (zs[at0] % 1048576).toNat = u at hp hul
      have hbw : b < w.heap.size := by omega
      by_cases k0 : u % 7 = 0
      · exact made_0 (d + 1) (by omega) a cap zs at0 u w (by omega) hlt hul b off _ ha hbw hcz hp k0
      by_cases k1 : u % 7 = 1
      · exact made_1 (d + 1) (by omega) a cap zs at0 u w (by omega) hlt hul b off _ ha hbw hcz hp k1
      by_cases k2 : u % 7 = 2
      · exact made_2 (d + 1) (by omega) a cap zs at0 u w (by omega) hlt hul b off _ ha hbw hcz hp k2
      by_cases k3 : u % 7 = 3
      · exact made_3 (d + 1) (by omega) a cap zs at0 u w (by omega) hlt hul b off _ ha hbw hcz hp k3
      by_cases k4 : 4 < u % 7
      · exact made_hi (d + 1) (by omega) a cap zs at0 u w (by omega) hlt hul b off _ ha hbw hcz hp k4
      by_cases k5 : d = 0
      · subst k5
        exact made_flat 1 (by omega) a cap zs at0 u w (by omega) hlt hul b off _ ha hbw hcz hp (by omega) rfl
      exact made_many (7 + ((u / 7 % 2 : Nat) : Int)) ((u / 7 % 2 : Nat) : Int) rfl (by omega) d (u / 14 % 4) (by omega) (by omega) (by omega) B a cap zs at0 u w hB (by omega) hlt hz
        (fun at1 W h1 h2 h3 => made_any d (by omega) (by omega) B a cap zs at1 W hl h1 h2 h3) hul b off _ ha hbw hcz hp (by omega) (by omega) (by omega) ((d + 1 : Nat) : Int) (by omega)
    · exact made_end (d + 1) (by omega) a cap zs at0 w hat (by omega)

/-- For use: what is made reads as a value of JSON, whose text is short, and in which no backslash stands. -/
theorem MadeIs.use2 {d : Nat} (hd : d ≤ 6) {w w' : World} {e : Ending} (h : MadeIs 0 d w e w') : ∃ (x : JV) (v : Value) (at' : Nat), e = .returned (.tuple #[v, .int .i64 at']) ∧ Rd w' w'.heap.size d x v ∧ chkAt 12 x = true ∧ ((txt 12 x).length ≤ 1124 ∧ tame 12 x = true) ∧ Below w.heap.size w w' := by
  obtain ⟨x, v, at', he, hat, hR, hc, ht, hb⟩ := h
  refine ⟨x, v, at', he, hR.toB fun b hb => hb.2, chk_up d 12 x (by omega) hc, ⟨?_, tame_up d 12 x (by omega) ht.2⟩, hb⟩
  rw [txt_up d 12 x (by omega) hc]
  have := ht.1
  omega
theorem MadeIs.use {d : Nat} (hd : d ≤ 6) {w w' : World} {e : Ending} (h : MadeIs 0 d w e w') : ∃ (x : JV) (v : Value) (at' : Nat), e = .returned (.tuple #[v, .int .i64 at']) ∧ Rd w' w'.heap.size d x v ∧ chkAt 12 x = true ∧ (txt 12 x).length ≤ 1000000 ∧ Below w.heap.size w w' := by
  obtain ⟨x, v, at', he, hR, hc, ht, hb⟩ := h.use2 hd
  exact ⟨x, v, at', he, hR, hc, by omega, hb⟩

end Go.Proofs.YtbcenaljaoejkaaDoor
