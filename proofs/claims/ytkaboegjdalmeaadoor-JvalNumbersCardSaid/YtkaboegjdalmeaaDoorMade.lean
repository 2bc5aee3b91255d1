/-
  Plain facts on the values by numbers: they are values of JSON; how long their texts are.
-/
import Derived.Test.YtkaboegjdalmeaaDoorAwake2
import Derived.Test.YtkaboegjdalmeaaDoorNumForms
namespace Go.Proofs.YtkaboegjdalmeaaDoor
open Go.RowKit

/-- Deeper tests say the same of what passes. -/
theorem chk_up : ∀ (d m : Nat) (x : JV), d ≤ m → chkAt d x = true → chkAt m x = true
  | 0, _, _, _, h => by cases h
  | d + 1, 0, _, h, _ => absurd h (by omega)
  | d + 1, m + 1, x, hm, h => by
    unfold chkAt at h ⊢
    rw [Bool.and_eq_true] at h ⊢
    refine ⟨h.1, List.all_eq_true.2 fun y hy => chk_up d m y (by omega) (List.all_eq_true.1 h.2 y hy)⟩
theorem pts_congr (f g : JV → List UInt8) (ob : Bool) : ∀ (fst : Bool) (ns : List ByteArray) (ps : List JV), (∀ p ∈ ps, f p = g p) → pts f ob fst ns ps = pts g ob fst ns ps
  | _, _, [], _ => rfl
  | fst, ns, p :: r, h => by
    unfold pts
    rw [h p (by simp), pts_congr f g ob false ns.tail r (fun q hq => h q (by simp [hq]))]
theorem txt_up : ∀ (d m : Nat) (x : JV), d ≤ m → chkAt d x = true → txt m x = txt d x
  | 0, _, _, _, h => by cases h
  | d + 1, 0, _, h, _ => absurd h (by omega)
  | d + 1, m + 1, x, hm, h => by
    unfold chkAt at h
    rw [Bool.and_eq_true] at h
    have hp : ∀ p ∈ x.ps, txt m p = txt d p := fun p hp => txt_up d m p (by omega) (List.all_eq_true.1 h.2 p hp)
    unfold txt
    rw [pts_congr (txt m) (txt d) false true x.ns x.ps hp, pts_congr (txt m) (txt d) true true x.ns x.ps hp]

/-- How long a text of so deep a value by numbers is at most. -/
def tlen : Nat → Nat
  | 0 => 0
  | d + 1 => 100 + 3 * (tlen d + 20)

def nmS (j : Nat) : ByteArray := ⟨#[110, dch j]⟩
theorem nm_valid (j : Nat) (h : j < 10) : Lib.validD (vbl (nmS j)) = true := by
  show Lib.validD [110, dch j] = true
  have hd : (dch j).toNat < 128 := by
    match j, h with
    | 0, _ | 1, _ | 2, _ | 3, _ | 4, _ | 5, _ | 6, _ | 7, _ | 8, _ | 9, _ => decide
  rw [Lib.validD_cons _ _ (by decide), Lib.validD_cons _ _ hd]
  rfl
/-- The names of an object of n parts, the first k of them. -/
def nmL (n : Nat) : Nat → List ByteArray
  | 0 => []
  | k + 1 => nmL n k ++ [nmS (n - k)]
theorem nmL_len (n : Nat) : ∀ k, (nmL n k).length = k
  | 0 => rfl
  | k + 1 => by unfold nmL; rw [List.length_append, nmL_len n k]; rfl
theorem nm_ok (n : Nat) (h : n ≤ 3) : nmOk (nmL n n) = true := by
  have v1 := nm_valid 1 (by omega)
  have v2 := nm_valid 2 (by omega)
  have v3 := nm_valid 3 (by omega)
  match n, h with
  | 0, _ => rfl
  | 1, _ =>
    show nmGo [] [vbl (nmS 1)] = true
    simp only [nmGo, v1]
    rfl
  | 2, _ =>
    show nmGo [] [vbl (nmS 2), vbl (nmS 1)] = true
    simp only [nmGo, v1, v2]
    decide
  | 3, _ =>
    show nmGo [] [vbl (nmS 3), vbl (nmS 2), vbl (nmS 1)] = true
    simp only [nmGo, v1, v2, v3]
    decide

end Go.Proofs.YtkaboegjdalmeaaDoor
